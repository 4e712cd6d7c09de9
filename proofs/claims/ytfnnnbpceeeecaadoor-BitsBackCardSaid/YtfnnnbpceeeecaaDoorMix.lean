/-
  bits.Both, Either: contracts.
-/
import Derived.Test.YtfnnnbpceeeecaaDoorPair
import Derived.Deep.RegionHeld3
namespace Go.Proofs.YtfnnnbpceeeecaaDoor
open Go.ChangeShapes Go.WideShapes Go.ChangeAt Go.RowKit
set_option linter.unusedVariables false

/-! ### words that are on their way to a Mask -/
def rawV (k : Nat) (f : Nat → Nat) : List Value := (List.range k).map fun j => Value.int .u64 ((f j : Nat) : Int)
theorem rawV_length (k : Nat) (f : Nat → Nat) : (rawV k f).length = k := by simp [rawV]
theorem rawV_get (k : Nat) (f : Nat → Nat) (j : Nat) (h : j < k) : (rawV k f)[j]? = some (Value.int .u64 ((f j : Nat) : Int)) := by simp [rawV, h]
theorem rawV_congr (f g : Nat → Nat) (n : Nat) (h : ∀ i, i < n → g i = f i) : rawV n f = rawV n g := by
  apply List.ext_getElem?
  intro i
  by_cases hi : i < n
  · rw [rawV_get _ _ _ hi, rawV_get _ _ _ hi, h i hi]
  · rw [List.getElem?_eq_none (by rw [rawV_length]; omega), List.getElem?_eq_none (by rw [rawV_length]; omega)]
def Raw (w : World) (B g : Nat) (A : Option Addr) (k c n : Nat) (f : Nat → Nat) : Prop :=
  n ≤ 2097152 ∧ B ≤ g ∧ Box w g 55 #[.int .i64 (n : Nat), .slice A k c] ∧ w.ownsRow B 56 1 (.slice A k c) k (rawV k f)
section
variable {w w' : World} {B g k c n : Nat} {A : Option Addr} {f : Nat → Nat}
theorem Mask.raw {l : List Bool} (h : Mask w B g A k c l) : Raw w B g A k c l.length (word l) := by
  refine ⟨h.1, h.2.1, h.2.2.1, ?_⟩
  have := h.2.2.2
  rw [show wordsV l = rawV (nw l) (word l) from rfl, ← h.count] at this
  exact this
theorem Raw.mask {l : List Bool} (h : Raw w B g A k c n f) (hl : l.length = n) (hk : k = nw l) (hf : ∀ j, j < k → f j = word l j) : Mask w B g A k c l := by
  refine ⟨by rw [hl]; exact h.1, h.2.1, by rw [hl]; exact h.2.2.1, ?_⟩
  have := h.2.2.2
  rw [rawV_congr f (word l) k (fun i hi => (hf i hi).symm)] at this
  rw [show wordsV l = rawV (nw l) (word l) from rfl, ← hk]
  exact this
theorem Raw.congr (h : Raw w B g A k c n f) (f' : Nat → Nat) (hf : ∀ j, j < k → f' j = f j) : Raw w B g A k c n f' := by
  refine ⟨h.1, h.2.1, h.2.2.1, ?_⟩
  rw [← rawV_congr f f' k hf]; exact h.2.2.2
theorem Raw.row_cell (h : Raw w B g A k c n f) : w.cell? ⟨g, 1, none⟩ = some (.slice A k c) := by rw [h.2.2.1.get]; rfl
theorem Raw.len_cell (h : Raw w B g A k c n f) : w.cell? ⟨g, 0, none⟩ = some (.int .i64 (n : Nat)) := by rw [h.2.2.1.get]; rfl
theorem Raw.at_ (h : Raw w B g A k c n f) {j : Nat} (hj : j < k) :
    ∃ r, A = some ⟨r, 0, none⟩ ∧ r ≠ g ∧ B ≤ r ∧ w.cell? ⟨r, j, none⟩ = some (.int .u64 ((f j : Nat) : Int)) ∧ w.frozen? ⟨r, j, none⟩ = false := by
  obtain ⟨r, rfl, hb, _, _, _⟩ := own_form h.2.2.2 (by omega)
  have hne := own_apart h.2.2.2 h.2.2.1 (by decide)
  refine ⟨r, rfl, fun e => hne (by rw [e]; rfl), hb, ?_, h.2.2.2.frozenAt j⟩
  rw [h.2.2.2.cellAt j (by omega)]
  exact rawV_get k f j hj
theorem Raw.put {r j : Nat} (h : Raw w B g (some ⟨r, 0, none⟩) k c n f) (f' : Nat → Nat) (hf : ∀ i, i < k → i ≠ j → f' i = f i) (u : Int) (hu : u = ((f' j : Nat) : Int)) :
    Raw (w.setCell ⟨r, j, none⟩ (.int .u64 u)) B g (some ⟨r, 0, none⟩) k c n f' := by
  have hne := own_apart h.2.2.2 h.2.2.1 (by decide)
  have hst := h.2.2.2.stored j (.int .u64 ((f' j : Nat) : Int))
  have hset : (rawV k f).set j (.int .u64 ((f' j : Nat) : Int)) = rawV k f' := by
    apply List.ext_getElem?
    intro i
    rw [List.getElem?_set]
    by_cases hi : i < k
    · rw [rawV_get _ _ _ hi, rawV_get _ _ _ hi, rawV_length]
      by_cases e : j = i
      · subst e; rw [if_pos rfl, if_pos hi]
      · rw [if_neg e, hf i hi (Ne.symm e)]
    · rw [List.getElem?_eq_none (l := rawV k f) (by rw [rawV_length]; omega), List.getElem?_eq_none (l := rawV k f') (by rw [rawV_length]; omega)]
      by_cases e : j = i
      · subst e; rw [if_pos rfl, if_neg (by rw [rawV_length]; exact hi)]
      · rw [if_neg e]
  rw [hset] at hst
  rw [hu]
  exact ⟨h.1, h.2.1, h.2.2.1.grown hst.2 (by intro e; exact hne (by simpa [Value.ownBlock] using e.symm)), hst.1⟩
end

/-! ### place by place -/
def mixL (o : Bool → Bool → Bool) (l m : List Bool) : List Bool := tab (min l.length m.length) fun i => o (l.getD i false) (m.getD i false)
theorem mixL_length (o : Bool → Bool → Bool) (l m : List Bool) : (mixL o l m).length = min l.length m.length := tab_length _ _
theorem mixL_get (o : Bool → Bool → Bool) (l m : List Bool) (i : Nat) : (mixL o l m).getD i false = (decide (i < min l.length m.length) && o (l.getD i false) (m.getD i false)) := tab_get _ _ _
theorem mask_of {w : World} {B : Nat} {p : Option Addr} {l : List Bool} (h : MaskP w B p l) (h0 : 0 < l.length) : ∃ g A k c, p = some ⟨g, 0, none⟩ ∧ Mask w B g A k c l := by
  rcases h with ⟨_, rfl⟩ | h
  · simp at h0
  · exact h
/-- a whole word, or the last one's part. -/
theorem mix_word (o : Bool → Bool → Bool) (l m : List Bool) (F j : Nat) (hF : ∀ b, b < 64 → F.testBit b = o (l.getD (64 * j + b) false) (m.getD (64 * j + b) false)) (hlt : F < 18446744073709551616) :
    (64 * (j + 1) ≤ min l.length m.length → F = word (mixL o l m) j) ∧ (64 * j < min l.length m.length → min l.length m.length < 64 * (j + 1) → F &&& (2 ^ (min l.length m.length % 64) - 1) = word (mixL o l m) j) := by
  refine ⟨fun h => eq_word hlt fun b hb => ?_, fun h1 h2 => eq_word (and_lt _ hlt) fun b hb => ?_⟩
  · rw [mixL_get, hF b hb, decide_eq_true (show 64 * j + b < min l.length m.length by omega)]; simp
  · have e : decide (64 * j + b < min l.length m.length) = decide (b < min l.length m.length % 64) := decide_eq_decide.2 (by omega)
    rw [mixL_get, Nat.testBit_and, Nat.testBit_two_pow_sub_one, hF b hb, e, Bool.and_comm]
theorem low_ones (s : Nat) (h : s < 64) (h0 : 0 < s) : IntKind.u64.wrap (IntKind.u64.wrap (2 ^ s) - 1) = ((2 ^ s - 1 : Nat) : Int) := by
  have h2 : 2 ^ s < 2 ^ 64 := Nat.pow_lt_pow_right (by omega) h
  have h3 : 0 < 2 ^ s := Nat.two_pow_pos s
  rw [one_bit s h, IntKind.wrap_u64]
  generalize 2 ^ s = y at *
  omega

/-! ### Both -/
theorem both_bits (l l' : List Bool) (i : Nat) : ∀ b, b < 64 → (word l i &&& word l' i).testBit b = and (l.getD (64 * i + b) false) (l'.getD (64 * i + b) false) := fun b hb => by
  rw [Nat.testBit_and, word_bit _ _ _ hb, word_bit _ _ _ hb]
theorem both_lt (l l' : List Bool) (i : Nat) : word l i &&& word l' i < 18446744073709551616 := and_lt _ (word_lt _ _)
/-- two Masks behind two captured variables: the words at i. -/
theorem both_one (g g' i k k' c c' ba bb : Nat) (A A' : Option Addr) (l l' : List Bool) (B : Nat) (w : World) (h : Mask w B g A k c l) (h' : Mask w B g' A' k' c' l') (ha : w.cell? ⟨ba, 0, none⟩ = some (.pointer (some ⟨g, 0, none⟩))) (hb : w.cell? ⟨bb, 0, none⟩ = some (.pointer (some ⟨g', 0, none⟩)))
    (hi : i < k) (hi' : i < k') :
    Calls Tryd.prog 38 #[.int .i64 i, .pointer (some ⟨ba, 0, none⟩), .pointer (some ⟨bb, 0, none⟩)] w fun e w' => e = .returned (.int .u64 ((word l i &&& word l' i : Nat) : Int)) ∧ ∃ m, w' = w.drewN m := by
  have hr := h.row_cell
  have hr' := h'.row_cell
  obtain ⟨r, rfl, _, _, hc, _⟩ := h.at_ hi
  obtain ⟨r', rfl, _, _, hc', _⟩ := h'.at_ hi'
  have HA := and_eq (word l i) (word l' i) (word_lt _ _) (word_lt _ _)
  clear h h'
  generalize word l i = x at *
  generalize word l' i = y at *
  generalize x &&& y = z at *
  go_enter Tryd.func38, Tryd.ntmps38
  go_wp2
  go_quiet (fail)
  go_wp2
  go_ret
  exact ⟨rfl, _, rfl⟩
set_option maxRecDepth 100000 in
set_option maxHeartbeats 4000000 in
theorem both_pair (p p' : Option Addr) (l l' : List Bool) (ba bb : Nat) (w : World) (h : MaskP w 0 p l) (h' : MaskP w 0 p' l') (ha : Box w ba 24 #[.pointer p]) (hb : Box w bb 24 #[.pointer p']) :
    Calls Tryd.prog 37 #[.pointer p, .pointer p', .func (.func 38) #[] #[.pointer (some ⟨ba, 0, none⟩), .pointer (some ⟨bb, 0, none⟩)]] w (NewMask (mixL and l l') w) := by
  have hs := h.small
  have hs' := h'.small
  have H := Lib.hid h
  have H' := Lib.hid h'
  have HC : Hid (∀ i, 64 * i < min l.length l'.length → ∀ W : World, w.grownBy W none → Calls Tryd.prog 38 #[.int .i64 i, .pointer (some ⟨ba, 0, none⟩), .pointer (some ⟨bb, 0, none⟩)] W fun e w' => e = .returned (.int .u64 ((word l i &&& word l' i : Nat) : Int)) ∧ ∃ m, w' = W.drewN m) := by
    refine Lib.hid fun i hi W hg => ?_
    obtain ⟨g, A, k, c, rfl, hm⟩ := mask_of h (by omega)
    obtain ⟨g', A', k', c', rfl, hm'⟩ := mask_of h' (by omega)
    refine both_one g g' i k k' c c' ba bb A A' l l' _ W (hm.grow hg) (hm'.grow hg) ?_ ?_ ?_ ?_
    · rw [(ha.grown hg (by simp)).get]; rfl
    · rw [(hb.grown hg (by simp)).get]; rfl
    · have := hm.count; unfold nw at this; omega
    · have := hm'.count; unfold nw at this; omega
  clear h h' ha hb
  obtain ⟨a, hla⟩ : ∃ a, l.length = a := ⟨_, rfl⟩
  obtain ⟨b, hlb⟩ : ∃ b, l'.length = b := ⟨_, rfl⟩
  have HMX := Lib.hid (fun j => mix_word and l l' (word l j &&& word l' j) j (both_bits l l' j) (both_lt l l' j))
  have HML := Lib.hid (mixL_length and l l')
  rw [hla, hlb] at HC HMX HML
  rw [hla] at hs
  rw [hlb] at hs'
  have HA := Lib.hid hla
  have HB := Lib.hid hlb
  clear hla hlb
  generalize hf : (fun j => word l j &&& word l' j) = F at *
  have HF := Lib.hid (fun j => (congrFun hf j).symm)
  clear hf
  by_cases hab : a ≤ b
  · rw [Nat.min_eq_left hab] at HC HMX HML
    obtain ⟨n, rfl⟩ : ∃ n, n = a := ⟨a, rfl⟩
    go_enter Tryd.func37, Tryd.ntmps37
    go_wp2_with fail
    refine (len_any _ l _ _ H.out).mono ?_
    rintro e w' ⟨rfl, hww⟩
    subst hww
    rw [HA.out]
    go_wp2_with fail
    refine (len_any _ l' _ _ H'.out).mono ?_
    rintro e w1 ⟨rfl, hww⟩
    subst hww
    rw [HB.out]
    go_wp2_with fail
    refine (blank_any (n : Int) ⟨by omega, by omega⟩ w1).mono ?_
    rw [cutN_of n (by omega)]
    rintro e w2 ⟨g, A', k, c', rfl, hm, hg⟩
    have hm' := hm.raw.congr (fun j => if j < 0 then F j else 0) (fun j hj => by
      show 0 = word (none_ n) j
      exact eq_word (by omega) fun b _ => by rw [none_get]; simp)
    rw [none_length] at hm'
    have hk := hm.count
    rw [show nw (none_ n) = (n + 63) / 64 by unfold nw; rw [none_length]] at hk
    have hkm : k ≤ 32768 := by omega
    have hrow := hm'.row_cell
    have HK := Lib.hid hk
    have HM1 := Lib.hid hm'
    have HG := Lib.hid hg
    clear hm hg hk hm'
    go_wp2_with fail
    clear hrow
    go_loopw [21] (fun i wr => ∃ x : Nat, x ≤ k ∧ i = .int .i64 x ∧ Raw wr w1.heap.size g A' k c' n (fun j => if j < x then F j else 0) ∧ w1.grownBy wr none) (fun i _ => k - (intOf i).toNat)
    case atStart => exact ⟨0, by omega, rfl, HM1.out, HG.out⟩
    case round =>
      obtain ⟨x, hx, rfl, hm, hg⟩ := hrel
      by_cases hlt : x < k
      · have hrow := hm.row_cell
        obtain ⟨r, rfl, hne, hB, hc, hfz⟩ := hm.at_ hlt
        have HCX := Lib.hid (fun m => HC.out x (by have := HK.out; omega) (wr.drewN m) (grown_drewN hg m))
        rw [show (word l x &&& word l' x) = F x from (HF.out x).symm] at HCX
        have HG2 := Lib.hid hg
        have HM2 := Lib.hid hm
        clear hg hm
        generalize hu : F x = u at *
        have HU := Lib.hid hu
        clear hu
        go_wp2
        go_region_held3 (fun w' => w'.cell? ⟨g, 1, none⟩ = some (.slice (some ⟨r, 0, none⟩) k c')) (go_keep)
          (first | (go_at_call 38; refine (HCX.out _).mono ?_; rintro e w4 ⟨rfl, m4, rfl⟩))
        go_wp2
        go_roundw
        case rel => exact ⟨x + 1, by omega, by go_num, Raw.put (w := wr.drewN _) HM2.out (fun j => if j < x + 1 then F j else 0) (fun i _ hi => by
          show (if i < x + 1 then F i else 0) = if i < x then F i else 0
          by_cases h : i < x
          · rw [if_pos h, if_pos (by omega)]
          · rw [if_neg h, if_neg (by omega)]) _ (by rw [if_pos (by omega), HU.out]), grown_put (grown_drewN HG2.out _) (.inr hB) _⟩
        case measure => simp [intOf]; omega
      · obtain rfl : x = k := by omega
        have hm2 := hm.congr F (fun j hj => by rw [if_pos hj])
        have hlen := hm2.len_cell
        have HLR := Lib.hid (show (mixL and l l').length = n from HML.out)
        have HKN := Lib.hid (show x = nw (mixL and l l') by unfold nw; rw [HML.out]; exact HK.out)
        have HW := Lib.hid (fun j => (show _ from HF.out j : F j = word l j &&& word l' j))
        by_cases h64 : n % 64 = 0
        · have h64' : ((n : Int) % 64 != 0) = false := by simp; omega
          have HMM := Lib.hid (hm2.mask HLR.out HKN.out (fun j hj => by rw [HW.out j]; exact (HMX.out j).1 (by have := HK.out; omega)))
          have HG2 := Lib.hid hg
          clear hm hm2 hg h64
          go_wp2
          go_ret
          exact ⟨g, A', x, c', rfl, HMM.out, HG2.out⟩
        · have h64' : ((n : Int) % 64 != 0) = true := by simp; omega
          have hx1 : 1 ≤ x := by have := HK.out; omega
          have hrow := hm2.row_cell
          obtain ⟨r, rfl, hne, hB, hc, hfz⟩ := hm2.at_ (j := x - 1) (by omega)
          have hlo := low_ones (n % 64) (by omega) (by omega)
          have hE := and_eq (F (x - 1)) (2 ^ (n % 64) - 1) (by rw [HW.out]; exact both_lt l l' _) (by
            have : 2 ^ (n % 64) < 2 ^ 64 := Nat.pow_lt_pow_right (by omega) (by omega)
            omega)
          have HEQ := Lib.hid (show F (x - 1) &&& (2 ^ (n % 64) - 1) = word (mixL and l l') (x - 1) by
            rw [HW.out]; exact (HMX.out (x - 1)).2 (by have := HK.out; omega) (by have := HK.out; omega))
          have HFW := Lib.hid (show ∀ j, j < x → j ≠ x - 1 → word (mixL and l l') j = F j from fun j hj hne => by rw [HW.out j]; exact ((HMX.out j).1 (by have := HK.out; omega)).symm)
          have HG2 := Lib.hid hg
          have HM2 := Lib.hid hm2
          clear hm hm2 hg
          generalize F (x - 1) = v at *
          generalize 2 ^ (n % 64) - 1 = q at *
          generalize hz : v &&& q = z at *
          clear hz
          have H64 := Lib.hid h64
          clear h64
          go_wp2
          go_region
          go_wp2
          go_ret
          exact ⟨g, _, x, c', rfl, (Raw.put HM2.out (word (mixL and l l')) (fun i hi hne => HFW.out i hi hne) _ (by rw [HEQ.out])).mask HLR.out HKN.out (fun _ _ => rfl), grown_drew (grown_put HG2.out (.inr hB) _)⟩
  · rw [Nat.min_eq_right (by omega)] at HC HMX HML
    obtain ⟨n, rfl⟩ : ∃ n, n = b := ⟨b, rfl⟩
    go_enter Tryd.func37, Tryd.ntmps37
    go_wp2_with fail
    refine (len_any _ l _ _ H.out).mono ?_
    rintro e w' ⟨rfl, hww⟩
    subst hww
    rw [HA.out]
    go_wp2_with fail
    refine (len_any _ l' _ _ H'.out).mono ?_
    rintro e w1 ⟨rfl, hww⟩
    subst hww
    rw [HB.out]
    go_wp2_with fail
    refine (blank_any (n : Int) ⟨by omega, by omega⟩ w1).mono ?_
    rw [cutN_of n (by omega)]
    rintro e w2 ⟨g, A', k, c', rfl, hm, hg⟩
    have hm' := hm.raw.congr (fun j => if j < 0 then F j else 0) (fun j hj => by
      show 0 = word (none_ n) j
      exact eq_word (by omega) fun b _ => by rw [none_get]; simp)
    rw [none_length] at hm'
    have hk := hm.count
    rw [show nw (none_ n) = (n + 63) / 64 by unfold nw; rw [none_length]] at hk
    have hkm : k ≤ 32768 := by omega
    have hrow := hm'.row_cell
    have HK := Lib.hid hk
    have HM1 := Lib.hid hm'
    have HG := Lib.hid hg
    clear hm hg hk hm'
    go_wp2_with fail
    clear hrow
    go_loopw [21] (fun i wr => ∃ x : Nat, x ≤ k ∧ i = .int .i64 x ∧ Raw wr w1.heap.size g A' k c' n (fun j => if j < x then F j else 0) ∧ w1.grownBy wr none) (fun i _ => k - (intOf i).toNat)
    case atStart => exact ⟨0, by omega, rfl, HM1.out, HG.out⟩
    case round =>
      obtain ⟨x, hx, rfl, hm, hg⟩ := hrel
      by_cases hlt : x < k
      · have hrow := hm.row_cell
        obtain ⟨r, rfl, hne, hB, hc, hfz⟩ := hm.at_ hlt
        have HCX := Lib.hid (fun m => HC.out x (by have := HK.out; omega) (wr.drewN m) (grown_drewN hg m))
        rw [show (word l x &&& word l' x) = F x from (HF.out x).symm] at HCX
        have HG2 := Lib.hid hg
        have HM2 := Lib.hid hm
        clear hg hm
        generalize hu : F x = u at *
        have HU := Lib.hid hu
        clear hu
        go_wp2
        go_region_held3 (fun w' => w'.cell? ⟨g, 1, none⟩ = some (.slice (some ⟨r, 0, none⟩) k c')) (go_keep)
          (first | (go_at_call 38; refine (HCX.out _).mono ?_; rintro e w4 ⟨rfl, m4, rfl⟩))
        go_wp2
        go_roundw
        case rel => exact ⟨x + 1, by omega, by go_num, Raw.put (w := wr.drewN _) HM2.out (fun j => if j < x + 1 then F j else 0) (fun i _ hi => by
          show (if i < x + 1 then F i else 0) = if i < x then F i else 0
          by_cases h : i < x
          · rw [if_pos h, if_pos (by omega)]
          · rw [if_neg h, if_neg (by omega)]) _ (by rw [if_pos (by omega), HU.out]), grown_put (grown_drewN HG2.out _) (.inr hB) _⟩
        case measure => simp [intOf]; omega
      · obtain rfl : x = k := by omega
        have hm2 := hm.congr F (fun j hj => by rw [if_pos hj])
        have hlen := hm2.len_cell
        have HLR := Lib.hid (show (mixL and l l').length = n from HML.out)
        have HKN := Lib.hid (show x = nw (mixL and l l') by unfold nw; rw [HML.out]; exact HK.out)
        have HW := Lib.hid (fun j => (show _ from HF.out j : F j = word l j &&& word l' j))
        by_cases h64 : n % 64 = 0
        · have h64' : ((n : Int) % 64 != 0) = false := by simp; omega
          have HMM := Lib.hid (hm2.mask HLR.out HKN.out (fun j hj => by rw [HW.out j]; exact (HMX.out j).1 (by have := HK.out; omega)))
          have HG2 := Lib.hid hg
          clear hm hm2 hg h64
          go_wp2
          go_ret
          exact ⟨g, A', x, c', rfl, HMM.out, HG2.out⟩
        · have h64' : ((n : Int) % 64 != 0) = true := by simp; omega
          have hx1 : 1 ≤ x := by have := HK.out; omega
          have hrow := hm2.row_cell
          obtain ⟨r, rfl, hne, hB, hc, hfz⟩ := hm2.at_ (j := x - 1) (by omega)
          have hlo := low_ones (n % 64) (by omega) (by omega)
          have hE := and_eq (F (x - 1)) (2 ^ (n % 64) - 1) (by rw [HW.out]; exact both_lt l l' _) (by
            have : 2 ^ (n % 64) < 2 ^ 64 := Nat.pow_lt_pow_right (by omega) (by omega)
            omega)
          have HEQ := Lib.hid (show F (x - 1) &&& (2 ^ (n % 64) - 1) = word (mixL and l l') (x - 1) by
            rw [HW.out]; exact (HMX.out (x - 1)).2 (by have := HK.out; omega) (by have := HK.out; omega))
          have HFW := Lib.hid (show ∀ j, j < x → j ≠ x - 1 → word (mixL and l l') j = F j from fun j hj hne => by rw [HW.out j]; exact ((HMX.out j).1 (by have := HK.out; omega)).symm)
          have HG2 := Lib.hid hg
          have HM2 := Lib.hid hm2
          clear hm hm2 hg
          generalize F (x - 1) = v at *
          generalize 2 ^ (n % 64) - 1 = q at *
          generalize hz : v &&& q = z at *
          clear hz
          have H64 := Lib.hid h64
          clear h64
          go_wp2
          go_region
          go_wp2
          go_ret
          exact ⟨g, _, x, c', rfl, (Raw.put HM2.out (word (mixL and l l')) (fun i hi hne => HFW.out i hi hne) _ (by rw [HEQ.out])).mask HLR.out HKN.out (fun _ _ => rfl), grown_drew (grown_put HG2.out (.inr hB) _)⟩
theorem both_any (p p' : Option Addr) (l l' : List Bool) (w : World) (h : MaskP w 0 p l) (h' : MaskP w 0 p' l') :
    Calls Tryd.prog 26 #[.pointer p, .pointer p'] w (NewMask (mixL and l l') w) := by
  have hg : w.grownBy ((w.alloc (.cells #[.pointer p] 24)).alloc (.cells #[.pointer p'] 24)) none := grown_alloc (World.grownBy_alloc _ _ _) _
  have hb := Box.fresh (w.alloc (.cells #[.pointer p] 24)) 24 #[.pointer p']
  rw [show (w.alloc (.cells #[.pointer p] 24)).heap.size = w.heap.size + 1 by simp] at hb
  have HP := Lib.hid (both_pair p p' l l' w.heap.size (w.heap.size + 1) _ (h.grow hg) (h'.grow hg) ((Box.fresh w _ _).alloc _) hb)
  have HG := Lib.hid hg
  clear h h' hg hb
  go_enter Tryd.func26, Tryd.ntmps26
  go_wp2_with fail
  refine HP.out.mono ?_
  rintro e w1 ⟨g, A, k, c, rfl, hm, hg⟩
  have HM := Lib.hid hm
  have HG1 := Lib.hid hg
  clear hm hg
  go_wp2_with fail
  go_ret
  exact ⟨g, A, k, c, rfl, HM.out.lower (by simp; omega), grown_join HG.out HG1.out (.inr (by simp))⟩

/-! ### Either -/
theorem either_bits (l l' : List Bool) (i : Nat) : ∀ b, b < 64 → (word l i ||| word l' i).testBit b = or (l.getD (64 * i + b) false) (l'.getD (64 * i + b) false) := fun b hb => by
  rw [Nat.testBit_or, word_bit _ _ _ hb, word_bit _ _ _ hb]
theorem either_lt (l l' : List Bool) (i : Nat) : word l i ||| word l' i < 18446744073709551616 := Nat.or_lt_two_pow (n := 64) (word_lt _ _) (word_lt _ _)
/-- two Masks behind two captured variables: the words at i. -/
theorem either_one (g g' i k k' c c' ba bb : Nat) (A A' : Option Addr) (l l' : List Bool) (B : Nat) (w : World) (h : Mask w B g A k c l) (h' : Mask w B g' A' k' c' l') (ha : w.cell? ⟨ba, 0, none⟩ = some (.pointer (some ⟨g, 0, none⟩))) (hb : w.cell? ⟨bb, 0, none⟩ = some (.pointer (some ⟨g', 0, none⟩)))
    (hi : i < k) (hi' : i < k') :
    Calls Tryd.prog 39 #[.int .i64 i, .pointer (some ⟨ba, 0, none⟩), .pointer (some ⟨bb, 0, none⟩)] w fun e w' => e = .returned (.int .u64 ((word l i ||| word l' i : Nat) : Int)) ∧ ∃ m, w' = w.drewN m := by
  have hr := h.row_cell
  have hr' := h'.row_cell
  obtain ⟨r, rfl, _, _, hc, _⟩ := h.at_ hi
  obtain ⟨r', rfl, _, _, hc', _⟩ := h'.at_ hi'
  have HA := u64_or_nat (word l i) (word l' i) (word_lt _ _) (word_lt _ _)
  clear h h'
  generalize word l i = x at *
  generalize word l' i = y at *
  generalize x ||| y = z at *
  go_enter Tryd.func39, Tryd.ntmps39
  go_wp2
  go_quiet (fail)
  go_wp2
  go_ret
  exact ⟨rfl, _, rfl⟩
set_option maxRecDepth 100000 in
set_option maxHeartbeats 4000000 in
theorem either_pair (p p' : Option Addr) (l l' : List Bool) (ba bb : Nat) (w : World) (h : MaskP w 0 p l) (h' : MaskP w 0 p' l') (ha : Box w ba 24 #[.pointer p]) (hb : Box w bb 24 #[.pointer p']) :
    Calls Tryd.prog 37 #[.pointer p, .pointer p', .func (.func 39) #[] #[.pointer (some ⟨ba, 0, none⟩), .pointer (some ⟨bb, 0, none⟩)]] w (NewMask (mixL or l l') w) := by
  have hs := h.small
  have hs' := h'.small
  have H := Lib.hid h
  have H' := Lib.hid h'
  have HC : Hid (∀ i, 64 * i < min l.length l'.length → ∀ W : World, w.grownBy W none → Calls Tryd.prog 39 #[.int .i64 i, .pointer (some ⟨ba, 0, none⟩), .pointer (some ⟨bb, 0, none⟩)] W fun e w' => e = .returned (.int .u64 ((word l i ||| word l' i : Nat) : Int)) ∧ ∃ m, w' = W.drewN m) := by
    refine Lib.hid fun i hi W hg => ?_
    obtain ⟨g, A, k, c, rfl, hm⟩ := mask_of h (by omega)
    obtain ⟨g', A', k', c', rfl, hm'⟩ := mask_of h' (by omega)
    refine either_one g g' i k k' c c' ba bb A A' l l' _ W (hm.grow hg) (hm'.grow hg) ?_ ?_ ?_ ?_
    · rw [(ha.grown hg (by simp)).get]; rfl
    · rw [(hb.grown hg (by simp)).get]; rfl
    · have := hm.count; unfold nw at this; omega
    · have := hm'.count; unfold nw at this; omega
  clear h h' ha hb
  obtain ⟨a, hla⟩ : ∃ a, l.length = a := ⟨_, rfl⟩
  obtain ⟨b, hlb⟩ : ∃ b, l'.length = b := ⟨_, rfl⟩
  have HMX := Lib.hid (fun j => mix_word or l l' (word l j ||| word l' j) j (either_bits l l' j) (either_lt l l' j))
  have HML := Lib.hid (mixL_length or l l')
  rw [hla, hlb] at HC HMX HML
  rw [hla] at hs
  rw [hlb] at hs'
  have HA := Lib.hid hla
  have HB := Lib.hid hlb
  clear hla hlb
  generalize hf : (fun j => word l j ||| word l' j) = F at *
  have HF := Lib.hid (fun j => (congrFun hf j).symm)
  clear hf
  by_cases hab : a ≤ b
  · rw [Nat.min_eq_left hab] at HC HMX HML
    obtain ⟨n, rfl⟩ : ∃ n, n = a := ⟨a, rfl⟩
    go_enter Tryd.func37, Tryd.ntmps37
    go_wp2_with fail
    refine (len_any _ l _ _ H.out).mono ?_
    rintro e w' ⟨rfl, hww⟩
    subst hww
    rw [HA.out]
    go_wp2_with fail
    refine (len_any _ l' _ _ H'.out).mono ?_
    rintro e w1 ⟨rfl, hww⟩
    subst hww
    rw [HB.out]
    go_wp2_with fail
    refine (blank_any (n : Int) ⟨by omega, by omega⟩ w1).mono ?_
    rw [cutN_of n (by omega)]
    rintro e w2 ⟨g, A', k, c', rfl, hm, hg⟩
    have hm' := hm.raw.congr (fun j => if j < 0 then F j else 0) (fun j hj => by
      show 0 = word (none_ n) j
      exact eq_word (by omega) fun b _ => by rw [none_get]; simp)
    rw [none_length] at hm'
    have hk := hm.count
    rw [show nw (none_ n) = (n + 63) / 64 by unfold nw; rw [none_length]] at hk
    have hkm : k ≤ 32768 := by omega
    have hrow := hm'.row_cell
    have HK := Lib.hid hk
    have HM1 := Lib.hid hm'
    have HG := Lib.hid hg
    clear hm hg hk hm'
    go_wp2_with fail
    clear hrow
    go_loopw [21] (fun i wr => ∃ x : Nat, x ≤ k ∧ i = .int .i64 x ∧ Raw wr w1.heap.size g A' k c' n (fun j => if j < x then F j else 0) ∧ w1.grownBy wr none) (fun i _ => k - (intOf i).toNat)
    case atStart => exact ⟨0, by omega, rfl, HM1.out, HG.out⟩
    case round =>
      obtain ⟨x, hx, rfl, hm, hg⟩ := hrel
      by_cases hlt : x < k
      · have hrow := hm.row_cell
        obtain ⟨r, rfl, hne, hB, hc, hfz⟩ := hm.at_ hlt
        have HCX := Lib.hid (fun m => HC.out x (by have := HK.out; omega) (wr.drewN m) (grown_drewN hg m))
        rw [show (word l x ||| word l' x) = F x from (HF.out x).symm] at HCX
        have HG2 := Lib.hid hg
        have HM2 := Lib.hid hm
        clear hg hm
        generalize hu : F x = u at *
        have HU := Lib.hid hu
        clear hu
        go_wp2
        go_region_held3 (fun w' => w'.cell? ⟨g, 1, none⟩ = some (.slice (some ⟨r, 0, none⟩) k c')) (go_keep)
          (first | (go_at_call 39; refine (HCX.out _).mono ?_; rintro e w4 ⟨rfl, m4, rfl⟩))
        go_wp2
        go_roundw
        case rel => exact ⟨x + 1, by omega, by go_num, Raw.put (w := wr.drewN _) HM2.out (fun j => if j < x + 1 then F j else 0) (fun i _ hi => by
          show (if i < x + 1 then F i else 0) = if i < x then F i else 0
          by_cases h : i < x
          · rw [if_pos h, if_pos (by omega)]
          · rw [if_neg h, if_neg (by omega)]) _ (by rw [if_pos (by omega), HU.out]), grown_put (grown_drewN HG2.out _) (.inr hB) _⟩
        case measure => simp [intOf]; omega
      · obtain rfl : x = k := by omega
        have hm2 := hm.congr F (fun j hj => by rw [if_pos hj])
        have hlen := hm2.len_cell
        have HLR := Lib.hid (show (mixL or l l').length = n from HML.out)
        have HKN := Lib.hid (show x = nw (mixL or l l') by unfold nw; rw [HML.out]; exact HK.out)
        have HW := Lib.hid (fun j => (show _ from HF.out j : F j = word l j ||| word l' j))
        by_cases h64 : n % 64 = 0
        · have h64' : ((n : Int) % 64 != 0) = false := by simp; omega
          have HMM := Lib.hid (hm2.mask HLR.out HKN.out (fun j hj => by rw [HW.out j]; exact (HMX.out j).1 (by have := HK.out; omega)))
          have HG2 := Lib.hid hg
          clear hm hm2 hg h64
          go_wp2
          go_ret
          exact ⟨g, A', x, c', rfl, HMM.out, HG2.out⟩
        · have h64' : ((n : Int) % 64 != 0) = true := by simp; omega
          have hx1 : 1 ≤ x := by have := HK.out; omega
          have hrow := hm2.row_cell
          obtain ⟨r, rfl, hne, hB, hc, hfz⟩ := hm2.at_ (j := x - 1) (by omega)
          have hlo := low_ones (n % 64) (by omega) (by omega)
          have hE := and_eq (F (x - 1)) (2 ^ (n % 64) - 1) (by rw [HW.out]; exact either_lt l l' _) (by
            have : 2 ^ (n % 64) < 2 ^ 64 := Nat.pow_lt_pow_right (by omega) (by omega)
            omega)
          have HEQ := Lib.hid (show F (x - 1) &&& (2 ^ (n % 64) - 1) = word (mixL or l l') (x - 1) by
            rw [HW.out]; exact (HMX.out (x - 1)).2 (by have := HK.out; omega) (by have := HK.out; omega))
          have HFW := Lib.hid (show ∀ j, j < x → j ≠ x - 1 → word (mixL or l l') j = F j from fun j hj hne => by rw [HW.out j]; exact ((HMX.out j).1 (by have := HK.out; omega)).symm)
          have HG2 := Lib.hid hg
          have HM2 := Lib.hid hm2
          clear hm hm2 hg
          generalize F (x - 1) = v at *
          generalize 2 ^ (n % 64) - 1 = q at *
          generalize hz : v &&& q = z at *
          clear hz
          have H64 := Lib.hid h64
          clear h64
          go_wp2
          go_region
          go_wp2
          go_ret
          exact ⟨g, _, x, c', rfl, (Raw.put HM2.out (word (mixL or l l')) (fun i hi hne => HFW.out i hi hne) _ (by rw [HEQ.out])).mask HLR.out HKN.out (fun _ _ => rfl), grown_drew (grown_put HG2.out (.inr hB) _)⟩
  · rw [Nat.min_eq_right (by omega)] at HC HMX HML
    obtain ⟨n, rfl⟩ : ∃ n, n = b := ⟨b, rfl⟩
    go_enter Tryd.func37, Tryd.ntmps37
    go_wp2_with fail
    refine (len_any _ l _ _ H.out).mono ?_
    rintro e w' ⟨rfl, hww⟩
    subst hww
    rw [HA.out]
    go_wp2_with fail
    refine (len_any _ l' _ _ H'.out).mono ?_
    rintro e w1 ⟨rfl, hww⟩
    subst hww
    rw [HB.out]
    go_wp2_with fail
    refine (blank_any (n : Int) ⟨by omega, by omega⟩ w1).mono ?_
    rw [cutN_of n (by omega)]
    rintro e w2 ⟨g, A', k, c', rfl, hm, hg⟩
    have hm' := hm.raw.congr (fun j => if j < 0 then F j else 0) (fun j hj => by
      show 0 = word (none_ n) j
      exact eq_word (by omega) fun b _ => by rw [none_get]; simp)
    rw [none_length] at hm'
    have hk := hm.count
    rw [show nw (none_ n) = (n + 63) / 64 by unfold nw; rw [none_length]] at hk
    have hkm : k ≤ 32768 := by omega
    have hrow := hm'.row_cell
    have HK := Lib.hid hk
    have HM1 := Lib.hid hm'
    have HG := Lib.hid hg
    clear hm hg hk hm'
    go_wp2_with fail
    clear hrow
    go_loopw [21] (fun i wr => ∃ x : Nat, x ≤ k ∧ i = .int .i64 x ∧ Raw wr w1.heap.size g A' k c' n (fun j => if j < x then F j else 0) ∧ w1.grownBy wr none) (fun i _ => k - (intOf i).toNat)
    case atStart => exact ⟨0, by omega, rfl, HM1.out, HG.out⟩
    case round =>
      obtain ⟨x, hx, rfl, hm, hg⟩ := hrel
      by_cases hlt : x < k
      · have hrow := hm.row_cell
        obtain ⟨r, rfl, hne, hB, hc, hfz⟩ := hm.at_ hlt
        have HCX := Lib.hid (fun m => HC.out x (by have := HK.out; omega) (wr.drewN m) (grown_drewN hg m))
        rw [show (word l x ||| word l' x) = F x from (HF.out x).symm] at HCX
        have HG2 := Lib.hid hg
        have HM2 := Lib.hid hm
        clear hg hm
        generalize hu : F x = u at *
        have HU := Lib.hid hu
        clear hu
        go_wp2
        go_region_held3 (fun w' => w'.cell? ⟨g, 1, none⟩ = some (.slice (some ⟨r, 0, none⟩) k c')) (go_keep)
          (first | (go_at_call 39; refine (HCX.out _).mono ?_; rintro e w4 ⟨rfl, m4, rfl⟩))
        go_wp2
        go_roundw
        case rel => exact ⟨x + 1, by omega, by go_num, Raw.put (w := wr.drewN _) HM2.out (fun j => if j < x + 1 then F j else 0) (fun i _ hi => by
          show (if i < x + 1 then F i else 0) = if i < x then F i else 0
          by_cases h : i < x
          · rw [if_pos h, if_pos (by omega)]
          · rw [if_neg h, if_neg (by omega)]) _ (by rw [if_pos (by omega), HU.out]), grown_put (grown_drewN HG2.out _) (.inr hB) _⟩
        case measure => simp [intOf]; omega
      · obtain rfl : x = k := by omega
        have hm2 := hm.congr F (fun j hj => by rw [if_pos hj])
        have hlen := hm2.len_cell
        have HLR := Lib.hid (show (mixL or l l').length = n from HML.out)
        have HKN := Lib.hid (show x = nw (mixL or l l') by unfold nw; rw [HML.out]; exact HK.out)
        have HW := Lib.hid (fun j => (show _ from HF.out j : F j = word l j ||| word l' j))
        by_cases h64 : n % 64 = 0
        · have h64' : ((n : Int) % 64 != 0) = false := by simp; omega
          have HMM := Lib.hid (hm2.mask HLR.out HKN.out (fun j hj => by rw [HW.out j]; exact (HMX.out j).1 (by have := HK.out; omega)))
          have HG2 := Lib.hid hg
          clear hm hm2 hg h64
          go_wp2
          go_ret
          exact ⟨g, A', x, c', rfl, HMM.out, HG2.out⟩
        · have h64' : ((n : Int) % 64 != 0) = true := by simp; omega
          have hx1 : 1 ≤ x := by have := HK.out; omega
          have hrow := hm2.row_cell
          obtain ⟨r, rfl, hne, hB, hc, hfz⟩ := hm2.at_ (j := x - 1) (by omega)
          have hlo := low_ones (n % 64) (by omega) (by omega)
          have hE := and_eq (F (x - 1)) (2 ^ (n % 64) - 1) (by rw [HW.out]; exact either_lt l l' _) (by
            have : 2 ^ (n % 64) < 2 ^ 64 := Nat.pow_lt_pow_right (by omega) (by omega)
            omega)
          have HEQ := Lib.hid (show F (x - 1) &&& (2 ^ (n % 64) - 1) = word (mixL or l l') (x - 1) by
            rw [HW.out]; exact (HMX.out (x - 1)).2 (by have := HK.out; omega) (by have := HK.out; omega))
          have HFW := Lib.hid (show ∀ j, j < x → j ≠ x - 1 → word (mixL or l l') j = F j from fun j hj hne => by rw [HW.out j]; exact ((HMX.out j).1 (by have := HK.out; omega)).symm)
          have HG2 := Lib.hid hg
          have HM2 := Lib.hid hm2
          clear hm hm2 hg
          generalize F (x - 1) = v at *
          generalize 2 ^ (n % 64) - 1 = q at *
          generalize hz : v &&& q = z at *
          clear hz
          have H64 := Lib.hid h64
          clear h64
          go_wp2
          go_region
          go_wp2
          go_ret
          exact ⟨g, _, x, c', rfl, (Raw.put HM2.out (word (mixL or l l')) (fun i hi hne => HFW.out i hi hne) _ (by rw [HEQ.out])).mask HLR.out HKN.out (fun _ _ => rfl), grown_drew (grown_put HG2.out (.inr hB) _)⟩
theorem either_any (p p' : Option Addr) (l l' : List Bool) (w : World) (h : MaskP w 0 p l) (h' : MaskP w 0 p' l') :
    Calls Tryd.prog 27 #[.pointer p, .pointer p'] w (NewMask (mixL or l l') w) := by
  have hg : w.grownBy ((w.alloc (.cells #[.pointer p] 24)).alloc (.cells #[.pointer p'] 24)) none := grown_alloc (World.grownBy_alloc _ _ _) _
  have hb := Box.fresh (w.alloc (.cells #[.pointer p] 24)) 24 #[.pointer p']
  rw [show (w.alloc (.cells #[.pointer p] 24)).heap.size = w.heap.size + 1 by simp] at hb
  have HP := Lib.hid (either_pair p p' l l' w.heap.size (w.heap.size + 1) _ (h.grow hg) (h'.grow hg) ((Box.fresh w _ _).alloc _) hb)
  have HG := Lib.hid hg
  clear h h' hg hb
  go_enter Tryd.func27, Tryd.ntmps27
  go_wp2_with fail
  refine HP.out.mono ?_
  rintro e w1 ⟨g, A, k, c, rfl, hm, hg⟩
  have HM := Lib.hid hm
  have HG1 := Lib.hid hg
  clear hm hg
  go_wp2_with fail
  go_ret
  exact ⟨g, A, k, c, rfl, HM.out.lower (by simp; omega), grown_join HG.out HG1.out (.inr (by simp))⟩
end Go.Proofs.YtfnnnbpceeeecaaDoor
