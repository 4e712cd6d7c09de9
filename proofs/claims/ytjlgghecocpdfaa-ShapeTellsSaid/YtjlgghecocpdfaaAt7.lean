/-
  Layer 7, the program's own: Place, At.
-/
import Derived.Test.YtjlgghecocpdfaaStr7
namespace Go.Proofs.Ytjlgghecocpdfaa
open Go.ChangeShapes Go.WideShapes Go.ChangeAt Go.RowKit
set_option linter.unusedVariables false

/-! ### strides of shapes whose lengths are all at least 1 -/
theorem str_whole {s : List Int} (h : ∀ z ∈ s, 1 ≤ z) : ∀ j, j ≤ s.length → strE s j * prodL (s.take (s.length - j)) = prodL s
  | 0, _ => by rw [strE, Nat.sub_zero, List.take_of_length_le (Nat.le_refl _), Int.one_mul]
  | j + 1, hj => by
    have ih := str_whole h j (by omega)
    have hz := getD_one h (k := s.length - 1 - j) (by omega)
    have e : s.length - j = s.length - 1 - j + 1 := by omega
    rw [e, prodL_take s (s.length - 1 - j) (by omega)] at ih
    rw [strE, show s.length - (j + 1) = s.length - 1 - j by omega, show max 1 (s.getD (s.length - 1 - j) 0) = s.getD (s.length - 1 - j) 0 by omega, ← ih, Int.mul_assoc, Int.mul_comm (s.getD _ _)]
theorem str_le {s : List Int} (h : ∀ z ∈ s, 1 ≤ z) (hp : prodL s ≤ 1048576) {j : Nat} (hj : j ≤ s.length) : strE s j ≤ 1048576 := by
  have h1 := str_whole h j hj
  have h2 := prodL_pos (zs := s.take (s.length - j)) fun z hz => h z (List.mem_of_mem_take hz)
  have h3 := str_pos s j
  have h4 := Int.mul_le_mul_of_nonneg_left h2 (show 0 ≤ strE s j by omega)
  rw [Int.mul_one, h1] at h4
  omega
theorem str_full {s : List Int} (hf : full s = true) (h : ∀ z ∈ s, 1 ≤ z) : strB s = true := by
  unfold strB
  rw [(full_all hf).1]
  exact decide_eq_true (str_le h (full_all hf).2 (by omega))
theorem str_tab {s : List Int} {n : Nat} (hn : s.length = n) (hb : strB s = true) : stridesL s = tabI7 n fun j => strE s (n - 1 - j) := by
  subst hn; unfold stridesL; rw [if_pos hb]; rfl
theorem str_step {s : List Int} (h : ∀ z ∈ s, 1 ≤ z) {k : Nat} (hk : k < s.length) : strE s (s.length - k) = strE s (s.length - 1 - k) * s.getD k 0 := by
  have hz := getD_one h hk
  rw [show s.length - k = s.length - 1 - k + 1 by omega, strE, show s.length - 1 - (s.length - 1 - k) = k by omega, show max 1 (s.getD k 0) = s.getD k 0 by omega]
/-! ### Place -/
def sumE (s t : List Int) (n k : Nat) : Int := hornE s t k * strE s (n - k)
theorem sum_step {s t : List Int} {n : Nat} (hn : s.length = n) (h : ∀ z ∈ s, 1 ≤ z) {k : Nat} (hk : k < n) : sumE s t n (k + 1) = sumE s t n k + t.getD k 0 * strE s (n - 1 - k) := by
  subst hn
  unfold sumE
  rw [hornE, str_step h hk, show s.length - (k + 1) = s.length - 1 - k by omega, Int.add_mul, Int.mul_assoc, Int.mul_comm (s.getD k 0)]
theorem sum_in {s t : List Int} {n : Nat} (hn : s.length = n) (h : ∀ z ∈ s, 1 ≤ z) (hp : prodL s ≤ 1048576) (hh : ∀ i, i < s.length → 0 ≤ t.getD i 0 ∧ t.getD i 0 < s.getD i 0) {k : Nat} (hk : k ≤ n) : 0 ≤ sumE s t n k ∧ sumE s t n k ≤ 1099511627776 := by
  subst hn
  have h1 := horn_in hh k hk
  have h2 := prodL_mono s k h
  have h3 := str_pos s (s.length - k)
  have h4 := str_le h hp (j := s.length - k) (by omega)
  unfold sumE
  refine ⟨Int.mul_nonneg h1.1 (by omega), ?_⟩
  have := Int.mul_le_mul (show hornE s t k ≤ 1048576 by omega) h4 (by omega) (by omega)
  omega
theorem sum_term {s t : List Int} {n : Nat} (hn : s.length = n) (h : ∀ z ∈ s, 1 ≤ z) (hp : prodL s ≤ 1048576) (hh : ∀ i, i < s.length → 0 ≤ t.getD i 0 ∧ t.getD i 0 < s.getD i 0) {k : Nat} (hk : k < n) : 0 ≤ t.getD k 0 * strE s (n - 1 - k) ∧ t.getD k 0 * strE s (n - 1 - k) ≤ 1099511627776 := by
  subst hn
  have h1 := hh k hk
  have h2 : s.getD k 0 ≤ prodL s := by
    have a := prodL_mono s (k + 1) h
    rw [prodL_take s k hk] at a
    have b := prodL_pos (zs := s.take k) fun z hz => h z (List.mem_of_mem_take hz)
    have c := Int.mul_le_mul_of_nonneg_right b (show 0 ≤ s.getD k 0 by omega)
    rw [Int.one_mul] at c
    omega
  have h3 := str_pos s (s.length - 1 - k)
  have h4 := str_le h hp (j := s.length - 1 - k) (by omega)
  refine ⟨Int.mul_nonneg h1.1 (by omega), ?_⟩
  have := Int.mul_le_mul (show t.getD k 0 ≤ 1048576 by omega) h4 (by omega) (by omega)
  omega
theorem sum_end (s t : List Int) (n : Nat) : sumE s t n n = hornE s t n := by unfold sumE; rw [Nat.sub_self, strE, Int.mul_one]
theorem has_ones {s t : List Int} (h : ∀ i, i < s.length → 0 ≤ t.getD i 0 ∧ t.getD i 0 < s.getD i 0) : ∀ z ∈ s, 1 ≤ z := fun z hz => by
  obtain ⟨i, hi, rfl⟩ := List.getElem_of_mem hz
  have := h i hi
  simp [List.getD, hi] at this
  omega
theorem tellG_two {x y : Int} {a b : Bool} {w w' : World} (h1 : x = y) (h2 : a = b) (hw : w.grownBy w' none) : TellG (.tuple #[.int .i64 y, .bool b]) w (.returned (.tuple #[.int .i64 x, .bool a])) w' := by
  subst h1; subst h2; exact ⟨rfl, hw⟩
set_option maxHeartbeats 2000000 in
theorem own7_place (A A' : Option Addr) (n c n' c' : Nat) (s t : List Int) (w : World) (h : NumsF w A n c s) (h' : NumsF w A' n' c' t) (hn : n ≤ 1048576) (hn' : n' ≤ 1048576) :
    Calls Try.prog 9 #[.slice A n c, .slice A' n' c'] w (TellG (.tuple #[.int .i64 (placeV s t), .bool (placeB s t)]) w) := by
  have HSI := Lib.hid (own7_size A n c _ s 1048576 w h.1 hn (by unfold I64; omega))
  have HHA := Lib.hid (own7_has A A' n c _ n' c' _ s t w h.1 h'.1 hn hn')
  have HST := Lib.hid (own7_strides A n c s w h.1 hn)
  have H := Lib.hid h.1
  have H' := Lib.hid h'.1
  have HL := Lib.hid h.1.1
  clear h h'
  have HPB := Lib.hid (show ∀ b d, full s = b → hasB s t = d → placeB s t = (b && d) from fun b d hb hd => by unfold placeB; rw [hb, hd])
  have HPN := Lib.hid (fun (hb : placeB s t = false) => place_no hb)
  have HPY := Lib.hid (fun (hb : placeB s t = true) => place_yes hb)
  have HFU := Lib.hid (show sizeB s 1048576 = full s from rfl)
  cases hf : full s with
  | false =>
    rw [HFU.out, hf] at HSI
    have HNO := Lib.hid (show placeB s t = false by rw [HPB.out _ _ hf rfl]; rfl)
    have HNV := Lib.hid (HPN.out HNO.out)
    clear hf
    go_enter Try.func9, Try.ntmps9
    go_wp2_with fail
    refine HSI.out.mono ?_
    rintro e w1 ⟨rfl, rfl⟩
    go_wp2_with fail
    go_ret2
    exact tellG_two HNV.out.symm HNO.out.symm (grown_refl _ _)
  | true =>
    rw [HFU.out, hf] at HSI
    cases hh : hasB s t with
    | false =>
      rw [hh] at HHA
      have HNO := Lib.hid (show placeB s t = false by rw [HPB.out _ _ hf hh]; rfl)
      have HNV := Lib.hid (HPN.out HNO.out)
      clear hf hh
      go_enter Try.func9, Try.ntmps9
      go_wp2_with fail
      refine HSI.out.mono ?_
      rintro e w1 ⟨rfl, rfl⟩
      go_wp2_with fail
      refine HHA.out.mono ?_
      rintro e w2 ⟨rfl, rfl⟩
      go_wp2_with fail
      go_ret2
      exact tellG_two HNV.out.symm HNO.out.symm (grown_refl _ _)
    | true =>
      rw [hh] at HHA
      have HYE := Lib.hid (show placeB s t = true by rw [HPB.out _ _ hf hh]; rfl)
      have HYV := Lib.hid (HPY.out HYE.out)
      have HAS := Lib.hid (has_all hh)
      have HON := Lib.hid (has_ones HAS.out.2.2)
      have HFA := Lib.hid (full_all hf)
      have hnn : n' = n := by rw [← HL.out, ← HAS.out.2.1]; exact H'.out.1.symm
      subst hnn
      have HSL := Lib.hid (str_tab HL.out (str_full hf HON.out))
      have HSTEP := Lib.hid (fun k (hk : k < n') => sum_step (t := t) HL.out HON.out hk)
      have HIN := Lib.hid (fun k (hk : k ≤ n') => sum_in (t := t) HL.out HON.out HFA.out.2 HAS.out.2.2 hk)
      have HTE := Lib.hid (fun k (hk : k < n') => sum_term (t := t) HL.out HON.out HFA.out.2 HAS.out.2.2 hk)
      clear hf hh
      go_enter Try.func9, Try.ntmps9
      go_wp2_with fail
      refine HSI.out.mono ?_
      rintro e w1 ⟨rfl, rfl⟩
      go_wp2_with fail
      refine HHA.out.mono ?_
      rintro e w2 ⟨rfl, rfl⟩
      go_wp2_with fail
      refine HST.out.mono ?_
      rintro e w3 ⟨A3, c3, rfl, ho, hg⟩
      have hl3 : (stridesL s).length = n' := by rw [HSL.out, tabI_length7]
      rw [hl3] at ho ⊢
      rw [HSL.out] at ho
      have HO3 := Lib.hid ho
      have HG3 := Lib.hid hg
      have HT3 := Lib.hid (H'.out.grow hg)
      clear ho hg hl3
      go_wp2_with fail
      go_loop [8, 27] (fun v i => ∃ k : Nat, k ≤ n' ∧ i = .int .i64 k ∧ v = .int .i64 (sumE s t n' k)) (fun _ i => n' - (intOf i).toNat)
      case atStart => exact ⟨0, Nat.zero_le _, rfl, congrArg (Value.int .i64) (by unfold sumE; rw [hornE, Int.zero_mul])⟩
      case round =>
        obtain ⟨k, hk, rfl, rfl⟩ := hrel
        by_cases hlt : k < n'
        · obtain ⟨r, rfl, _, c0, _⟩ := HO3.out.at_ hlt
          rw [tabI_get7 _ _ _ hlt] at c0
          obtain ⟨b', off', rfl, _, hc'⟩ := HT3.out.2.at_ hlt
          have HSK := Lib.hid (HSTEP.out k hlt)
          have b1 := HIN.out k hk
          have b2 := HIN.out (k + 1) hlt
          have b3 := HTE.out k hlt
          rw [HSK.out] at b2
          generalize sumE s t n' k = x at *
          generalize t.getD k 0 = u at *
          generalize strE s (n' - 1 - k) = v at *
          have m1 : IntKind.i64.wrap (u * v) = u * v := IntWalk.i64_in _ (by omega)
          have m2 : wrap64 (u * v) = u * v := IntWalk.wrap64_in _ (by omega)
          have m3 : IntKind.i64.wrap (x + u * v) = x + u * v := IntWalk.i64_in _ (by omega)
          have m4 : wrap64 (x + u * v) = x + u * v := IntWalk.wrap64_in _ (by omega)
          go_wp2_with fail
          go_round
          case rel => exact ⟨k + 1, by omega, by go_num, congrArg (Value.int .i64) HSK.out.symm⟩
          case measure => simp [intOf]; omega
        · obtain rfl : k = n' := by omega
          have HEN := Lib.hid (sum_end s t k)
          go_wp2_with fail
          go_ret2
          exact tellG_two (by rw [HYV.out, HL.out, HEN.out]) HYE.out.symm HG3.out
/-! ### At -/
theorem mod_div (p a b : Int) (ha : 0 < a) (hb : 0 < b) : p % (a * b) / a = p / a % b := by
  have h1 : p / (a * b) = p / a / b := (Int.ediv_ediv_of_nonneg (show 0 ≤ a by omega)).symm
  have h2 := Int.mul_ediv_add_emod p (a * b)
  have h3 := Int.mul_ediv_add_emod (p / a) b
  have h4 := Int.mul_ediv_add_emod p a
  have h5 : p % (a * b) = p % a + a * (p / a % b) := by
    rw [h1, Int.mul_assoc] at h2
    have e : a * (b * (p / a / b) + p / a % b) = a * (p / a) := by rw [h3]
    rw [Int.mul_add] at e
    generalize a * (b * (p / a / b)) = X at *
    generalize a * (p / a % b) = Y at *
    generalize a * (p / a) = Z at *
    omega
  rw [h5, Int.add_mul_ediv_left _ _ (by omega), Int.ediv_eq_zero_of_lt (Int.emod_nonneg _ (by omega)) (Int.emod_lt_of_pos _ ha), Int.zero_add]
theorem rest_div {s : List Int} (h : ∀ z ∈ s, 1 ≤ z) (p : Int) : ∀ j, j ≤ s.length → restE s p j = p / strE s j
  | 0, _ => by rw [restE, strE, Int.ediv_one]
  | j + 1, hj => by
    have hz := getD_one h (k := s.length - 1 - j) (by omega)
    have hp := str_pos s j
    rw [restE, rest_div h p j (by omega), strE, show max 1 (s.getD (s.length - 1 - j) 0) = s.getD (s.length - 1 - j) 0 by omega, Int.ediv_ediv_of_nonneg (by omega)]
/-- what is left of the count ahead of axis k. -/
def leftE (s : List Int) (p : Int) (n k : Nat) : Int := p % strE s (n - k)
theorem left_start {s : List Int} {p : Int} {n : Nat} (hn : s.length = n) (h : ∀ z ∈ s, 1 ≤ z) (h0 : 0 ≤ p) (hp : p < prodL s) : leftE s p n 0 = p := by
  subst hn
  have := str_whole h s.length (Nat.le_refl _)
  rw [Nat.sub_self, List.take_zero, show prodL [] = 1 from rfl, Int.mul_one] at this
  unfold leftE
  rw [Nat.sub_zero, this]
  exact Int.emod_eq_of_lt h0 hp
theorem left_step {s : List Int} {p : Int} {n : Nat} (hn : s.length = n) (h : ∀ z ∈ s, 1 ≤ z) {k : Nat} (hk : k < n) : leftE s p n k % strE s (n - 1 - k) = leftE s p n (k + 1) := by
  subst hn
  unfold leftE
  rw [str_step h hk, show s.length - (k + 1) = s.length - 1 - k by omega]
  exact Int.emod_emod_of_dvd _ (Int.dvd_mul_right _ _)
theorem left_dig {s : List Int} {p : Int} {n : Nat} (hn : s.length = n) (h : ∀ z ∈ s, 1 ≤ z) {k : Nat} (hk : k < n) : leftE s p n k / strE s (n - 1 - k) = digE s p k := by
  subst hn
  have hz := getD_one h hk
  have hp := str_pos s (s.length - 1 - k)
  unfold leftE digE
  rw [str_step h hk, mod_div _ _ _ (by omega) (by omega), rest_div h p _ (by omega)]
theorem left_in {s : List Int} {p : Int} {n : Nat} (hn : s.length = n) (h : ∀ z ∈ s, 1 ≤ z) (hp : prodL s ≤ 1048576) {k : Nat} (hk : k ≤ n) : 0 ≤ leftE s p n k ∧ leftE s p n k < 1048576 := by
  subst hn
  have h1 := str_pos s (s.length - k)
  have h2 := str_le h hp (j := s.length - k) (by omega)
  unfold leftE
  have := Int.emod_lt_of_pos p (show 0 < strE s (s.length - k) by omega)
  exact ⟨Int.emod_nonneg _ (by omega), by omega⟩
/-- the row behind k rounds: places ahead of k, strides from k on. -/
def mixE (s : List Int) (p : Int) (n k : Nat) : List Int := tabI7 n fun j => if j < k then digE s p j else strE s (n - 1 - j)
theorem mix_start (s : List Int) (p : Int) (n : Nat) : (tabI7 n fun j => strE s (n - 1 - j)) = mixE s p n 0 := tabI_congr7 fun i _ => (if_neg (by omega)).symm
theorem mix_get (s : List Int) (p : Int) (n k : Nat) (hk : k < n) : (mixE s p n k).getD k 0 = strE s (n - 1 - k) := by unfold mixE; rw [tabI_get7 _ _ _ hk, if_neg (by omega)]
theorem mix_put (s : List Int) (p : Int) (n k : Nat) : (mixE s p n k).set k (digE s p k) = mixE s p n (k + 1) := by
  unfold mixE
  rw [tabI_set7]
  refine tabI_congr7 fun i hi => ?_
  by_cases e : i = k
  · rw [if_pos e, if_pos (by omega), e]
  · rw [if_neg e]
    by_cases h : i < k
    · rw [if_pos h, if_pos (by omega)]
    · rw [if_neg h, if_neg (by omega)]
theorem mix_end {s : List Int} {p : Int} {n : Nat} (hn : s.length = n) (h : atB s p = true) : mixE s p n n = atL s p := by
  subst hn
  unfold mixE atL
  rw [if_pos h]
  unfold tabI7
  apply List.map_congr_left
  intro i hi
  rw [List.mem_range] at hi
  exact if_pos hi
theorem GaveIntsB.of {zs zs' : List Int} {b b' : Bool} {w w' : World} {A : Option Addr} {n c : Nat} (hz : zs' = zs) (hb : b' = b) (hn : zs.length = n) (ho : OwnI w' w.heap.size A n c zs') (hg : w.grownBy w' none) : GaveIntsB zs b w (.returned (.tuple #[.slice A n c, .bool b'])) w' := by
  subst hz; subst hn; subst hb; exact ⟨A, c, rfl, ho, hg⟩
theorem GaveIntsB.none_ {zs : List Int} {b : Bool} {w w' : World} (hz : zs = []) (hb : b = false) (hg : w.grownBy w' none) : GaveIntsB zs b w (.returned (.tuple #[.slice none 0 0, .bool false])) w' := by
  subst hz; subst hb; exact ⟨none, 0, rfl, OwnI.nil _ _, hg⟩
set_option maxHeartbeats 2000000 in
theorem own7_at (A : Option Addr) (n c : Nat) (s : List Int) (p : Int) (w : World) (h : NumsF w A n c s) (hn : n ≤ 1048576) :
    Calls Try.prog 11 #[.slice A n c, .int .i64 p] w (GaveIntsB (atL s p) (atB s p) w) := by
  have HSI := Lib.hid (own7_size A n c _ s 1048576 w h.1 hn (by unfold I64; omega))
  have HST := Lib.hid (own7_strides A n c s w h.1 hn)
  have HL := Lib.hid h.1.1
  clear h
  have HAN := Lib.hid (show atB s p = false → atL s p = [] from fun hb => by unfold atL; rw [hb]; rfl)
  have HAB := Lib.hid (show ∀ b, full s = b → atB s p = (b && decide (0 ≤ p ∧ p < prodL s)) from fun b hb => by unfold atB; rw [hb])
  have HFU := Lib.hid (show sizeB s 1048576 = full s from rfl)
  have HSY := Lib.hid (fun (hb : sizeB s 1048576 = true) => size_yes hb)
  cases hf : full s with
  | false =>
    rw [HFU.out, hf] at HSI
    have HNB := Lib.hid (show atB s p = false by rw [HAB.out _ hf]; rfl)
    have HNL := Lib.hid (HAN.out HNB.out)
    clear hf
    go_enter Try.func11, Try.ntmps11
    go_wp2_with fail
    refine HSI.out.mono ?_
    rintro e w1 ⟨rfl, rfl⟩
    go_wp2_with fail
    go_ret2
    exact GaveIntsB.none_ HNL.out HNB.out (grown_refl _ _)
  | true =>
    rw [HFU.out, hf, HSY.out hf] at HSI
    have HFA := Lib.hid (full_all hf)
    by_cases hp : 0 ≤ p ∧ p < prodL s
    · have HY := Lib.hid (show atB s p = true by rw [HAB.out _ hf]; simp only [Bool.true_and, decide_eq_true_eq]; exact hp)
      have HON := Lib.hid (at_ones HY.out)
      have HSL := Lib.hid ((str_tab HL.out (str_full hf HON.out)).trans (mix_start s p n))
      have HEN := Lib.hid (mix_end HL.out HY.out)
      have HLS := Lib.hid (left_start HL.out HON.out hp.1 hp.2)
      have HLT := Lib.hid (fun k (hk : k < n) => left_step (p := p) HL.out HON.out hk)
      have HLD := Lib.hid (fun k (hk : k < n) => left_dig (p := p) HL.out HON.out hk)
      have HLI := Lib.hid (fun k (hk : k ≤ n) => left_in (p := p) HL.out HON.out HFA.out.2 hk)
      have d0 : decide (p < 0) = false := decide_eq_false (by omega)
      have d1 : decide (prodL s ≤ p) = false := decide_eq_false (by omega)
      clear hf hp
      go_enter Try.func11, Try.ntmps11
      go_wp2_with fail
      refine HSI.out.mono ?_
      rintro e w1 ⟨rfl, rfl⟩
      go_wp2_with fail
      refine HST.out.mono ?_
      rintro e w3 ⟨A3, c3, rfl, ho, hg⟩
      have hl3 : (stridesL s).length = n := by rw [HSL.out]; exact tabI_length7 _ _
      rw [hl3] at ho ⊢
      rw [HSL.out] at ho
      have HO3 := Lib.hid ho
      have HG3 := Lib.hid hg
      clear ho hg hl3 d0 d1
      go_wp2_with fail
      go_loopw [1, 31] (fun v i wr => ∃ k : Nat, k ≤ n ∧ i = .int .i64 k ∧ v = .int .i64 (leftE s p n k) ∧ OwnI wr w1.heap.size A3 n c3 (mixE s p n k) ∧ w1.grownBy wr none) (fun _ i _ => n - (intOf i).toNat)
      case atStart => exact ⟨0, Nat.zero_le _, rfl, congrArg (Value.int .i64) HLS.out.symm, HO3.out, HG3.out⟩
      case round =>
        obtain ⟨k, hk, rfl, rfl, ho, hg⟩ := hrel
        have HO := Lib.hid ho
        have HG := Lib.hid hg
        clear ho hg
        by_cases hlt : k < n
        · obtain ⟨r, rfl, hbr, c0, f0⟩ := HO.out.at_ hlt
          rw [mix_get _ _ _ _ hlt] at c0
          have HPU := Lib.hid (HO.out.put k (digE s p k))
          rw [mix_put] at HPU
          have HGP := Lib.hid (grown_put (j := k) HG.out (.inr hbr) (.int .i64 (digE s p k)))
          have HSK := Lib.hid (HLT.out k hlt)
          have HDK := Lib.hid (HLD.out k hlt)
          have b1 := HLI.out k hk
          have b2 := HLI.out (k + 1) hlt
          have b3 := str_pos s (n - 1 - k)
          have b4 : 0 ≤ digE s p k ∧ digE s p k < 1048576 := by
            rw [← HDK.out]
            exact ⟨Int.ediv_nonneg b1.1 (by omega), Int.lt_of_le_of_lt (Int.ediv_le_self _ b1.1) b1.2⟩
          generalize digE s p k = dg at *
          generalize leftE s p n k = x at *
          generalize hxn : leftE s p n (k + 1) = x' at *
          have HXN := Lib.hid hxn
          clear hxn
          generalize strE s (n - 1 - k) = v at *
          have m1 : x % v = x' := HSK.out
          have m2 : x.tmod v = x' := by rw [IntWalk.rem_in _ _ (by omega)]; exact m1
          have m3 : x / v = dg := HDK.out
          have m4 : x.tdiv v = dg := by rw [Int.tdiv_eq_ediv_of_nonneg (by omega)]; exact m3
          have m5 : (v == 0) = false := by simp; omega
          have m6 : IntKind.i64.wrap dg = dg := IntWalk.i64_in _ (by omega)
          have m7 : wrap64 dg = dg := IntWalk.wrap64_in _ (by omega)
          have m8 : IntKind.i64.wrap x' = x' := IntWalk.i64_in _ (by omega)
          have m9 : wrap64 x' = x' := IntWalk.wrap64_in _ (by omega)
          clear hbr
          go_wp2_with fail
          go_roundw
          case rel => exact ⟨k + 1, by omega, by go_num, congrArg (Value.int .i64) HXN.out.symm, HPU.out, HGP.out⟩
          case measure => simp [intOf]; omega
        · obtain rfl : k = n := by omega
          go_wp2_with fail
          go_ret2
          exact GaveIntsB.of HEN.out HY.out.symm (by rw [← HEN.out]; exact tabI_length7 _ _) HO.out HG.out
    · have HNB := Lib.hid (show atB s p = false by rw [HAB.out _ hf]; simp only [Bool.true_and, decide_eq_false_iff_not]; exact hp)
      have HNL := Lib.hid (HAN.out HNB.out)
      have hp2 : p < 0 ∨ ¬ p < 0 ∧ prodL s ≤ p := by omega
      clear hf hp
      rcases hp2 with hp2 | ⟨h0, hp2⟩
      · have d0 : decide (p < 0) = true := decide_eq_true hp2
        go_enter Try.func11, Try.ntmps11
        go_wp2_with fail
        refine HSI.out.mono ?_
        rintro e w1 ⟨rfl, rfl⟩
        go_wp2_with fail
        go_ret2
        exact GaveIntsB.none_ HNL.out HNB.out (grown_refl _ _)
      · have d1 : decide (prodL s ≤ p) = true := decide_eq_true hp2
        have d0 : decide (p < 0) = false := decide_eq_false h0
        go_enter Try.func11, Try.ntmps11
        go_wp2_with fail
        refine HSI.out.mono ?_
        rintro e w1 ⟨rfl, rfl⟩
        go_wp2_with fail
        go_ret2
        exact GaveIntsB.none_ HNL.out HNB.out (grown_refl _ _)
end Go.Proofs.Ytjlgghecocpdfaa
