/-
  SLICES OF INTEGERS THAT ARE ONLY READ: slices.Index, slices.Contains, slices.Min; then num.sizes, Product, Total and their references.
-/
import Derived.Test.YtkpfhjjojchdlaaNum
import Derived.BigQuiet
import Derived.Deep.QuietTactic
import Derived.Deep.Draws
namespace Go.Proofs.Ytkpfhjjojchdlaa
open Go.ChangeShapes Go.WideShapes Go.ChangeAt Go.RowKit
set_option linter.unusedVariables false

/-- the slice at A, of n cells, holds the numbers zs. -/
def Ints (w : World) (A : Option Addr) (n : Nat) (zs : List Int) : Prop :=
  zs.length = n ∧ (0 < n → ∃ b off, A = some ⟨b, off, none⟩ ∧ ∀ k, k < n → w.cell? ⟨b, off + k, none⟩ = some (.int .i64 (zs.getD k 0)))
theorem Ints.at_ {w : World} {A : Option Addr} {n : Nat} {zs : List Int} (h : Ints w A n zs) {k : Nat} (hk : k < n) :
    ∃ b off, A = some ⟨b, off, none⟩ ∧ w.cell? ⟨b, off + k, none⟩ = some (.int .i64 (zs.getD k 0)) := by
  obtain ⟨b, off, e, hc⟩ := h.2 (by omega)
  exact ⟨b, off, e, hc k hk⟩
theorem Ints.drewN {w : World} {A : Option Addr} {n : Nat} {zs : List Int} (h : Ints w A n zs) (m : Nat) : Ints (w.drewN m) A n zs := h
theorem Ints.drew {w : World} {A : Option Addr} {n : Nat} {zs : List Int} (h : Ints w A n zs) : Ints w.drew A n zs := h

theorem ret_num {k : IntKind} {a b : Int} (h : a = b) : Ending.returned (.int k a) = .returned (.int k b) := by rw [h]
theorem ret_bool {a b : Bool} (h : a = b) : Ending.returned (.bool a) = .returned (.bool b) := by rw [h]

/-- where x first stands, or -1. -/
def idx (zs : List Int) (x : Int) : Int := if x ∈ zs then (zs.idxOf x : Int) else -1
theorem idx_has (zs : List Int) (x : Int) : decide (0 ≤ idx zs x) = decide (x ∈ zs) := by
  unfold idx; by_cases h : x ∈ zs <;> simp [h]
theorem notin_take (zs : List Int) (x : Int) (k : Nat) (hk : k < zs.length) (h : x ∉ zs.take k) (hx : ¬ x = zs.getD k 0) : x ∉ zs.take (k + 1) := by
  rw [List.take_succ_eq_append_getElem hk, List.mem_append, not_or]
  refine ⟨h, ?_⟩
  have : zs.getD k 0 = zs[k] := by simp [List.getD, hk]
  rw [this] at hx
  simpa using hx
theorem idx_here (zs : List Int) (x : Int) (k : Nat) (hk : k < zs.length) (h : x ∉ zs.take k) (hx : x = zs.getD k 0) : (k : Int) = idx zs x := by
  have e : zs.getD k 0 = zs[k] := by simp [List.getD, hk]
  have hm : x ∈ zs := by rw [hx, e]; exact List.getElem_mem hk
  unfold idx
  rw [if_pos hm]
  congr 1
  have h1 : zs.idxOf x ≤ k := by
    rw [hx, e]
    rcases Nat.lt_or_ge k (zs.idxOf zs[k]) with h | h
    · have := List.not_of_lt_findIdx h
      simp at this
    · exact h
  rcases Nat.lt_or_ge (zs.idxOf x) k with h2 | h2
  · exfalso
    apply h
    have h3 : zs.idxOf x < zs.length := by omega
    have h4 : zs[zs.idxOf x] = x := List.getElem_idxOf h3
    rw [List.mem_take_iff_getElem]
    exact ⟨zs.idxOf x, by omega, h4⟩
  · omega

theorem idx_none (zs : List Int) (x : Int) (k : Nat) (hk : zs.length ≤ k) (h : x ∉ zs.take k) : -1 = idx zs x := by
  unfold idx
  rw [List.take_of_length_le hk] at h
  rw [if_neg h]

theorem index_any (A : Option Addr) (n c : Nat) (zs : List Int) (x : Int) (w : World) (h : Ints w A n zs) (hn : n ≤ 9223372036854775807) :
    Calls Try.prog 98 #[.slice A n c, .int .i64 x] w fun e w' => e = .returned (.int .i64 (idx zs x)) ∧ w' = w := by
  have hl := h.1
  have HL := Lib.hid hl
  clear hl
  go_enter Try.func98, Try.ntmps98
  go_wp2
  go_loop [8] (fun i => ∃ k : Nat, k ≤ n ∧ i = .int .i64 k ∧ x ∉ zs.take k) (fun i => n - (intOf i).toNat)
  case atStart => exact ⟨0, Nat.zero_le _, rfl, by simp⟩
  case round =>
    obtain ⟨k, hk, rfl, hnot⟩ := hrel
    by_cases hlt : k < n
    · obtain ⟨b, off, rfl, hc⟩ := h.at_ hlt
      go_wp2
      · have hx : x = zs.getD k 0 := by simpa using ‹(x == zs[k]?.getD 0) = true›
        go_ret
        exact ⟨ret_num (idx_here zs x k (by rw [HL.out]; exact hlt) hnot hx), rfl⟩
      · have hx : ¬ x = zs.getD k 0 := by simpa using ‹(x == zs[k]?.getD 0) = false›
        go_round
        case rel => exact ⟨k + 1, by omega, by go_num, notin_take zs x k (by rw [HL.out]; exact hlt) hnot hx⟩
        case measure => simp [intOf]; omega
    · go_wp2
      go_ret
      exact ⟨ret_num (idx_none zs x k (by rw [HL.out]; omega) hnot), rfl⟩

theorem contains_any (A : Option Addr) (n c : Nat) (zs : List Int) (x : Int) (w : World) (h : Ints w A n zs) (hn : n ≤ 9223372036854775807) :
    Calls Try.prog 89 #[.slice A n c, .int .i64 x] w fun e w' => e = .returned (.bool (decide (x ∈ zs))) ∧ w' = w := by
  have H := Lib.hid h
  clear h
  go_enter Try.func89, Try.ntmps89
  go_wp2_with (go_at_call 98; refine (index_any _ _ _ zs _ _ H.out hn).mono ?_; rintro e w' ⟨rfl, rfl⟩)
  go_ret
  exact ⟨ret_bool (idx_has zs x), rfl⟩

/-- v is the least of the first k numbers. -/
def Least (zs : List Int) (k : Nat) (v : Int) : Prop := (∃ j, j < k ∧ zs.getD j 0 = v) ∧ ∀ j, j < k → v ≤ zs.getD j 0
theorem Least.step {zs : List Int} {k : Nat} {v : Int} (h : Least zs k v) : Least zs (k + 1) (if zs.getD k 0 < v then zs.getD k 0 else v) := by
  obtain ⟨⟨j, hj, e⟩, hl⟩ := h
  by_cases hlt : zs.getD k 0 < v
  · rw [if_pos hlt]
    refine ⟨⟨k, by omega, rfl⟩, fun i hi => ?_⟩
    by_cases hik : i = k
    · rw [hik]; exact Int.le_refl _
    · have := hl i (by omega); omega
  · rw [if_neg hlt]
    refine ⟨⟨j, by omega, e⟩, fun i hi => ?_⟩
    by_cases hik : i = k
    · rw [hik]; omega
    · exact hl i (by omega)
theorem least_first (zs : List Int) : Least zs 1 (zs[0]?.getD 0) := by
  refine ⟨⟨0, by omega, by simp [List.getD]⟩, fun j hj => ?_⟩
  obtain rfl : j = 0 := by omega
  exact Int.le_of_eq (by simp [List.getD])
def SomeLeast (zs : List Int) (n : Nat) (w : World) (e : Ending) (w' : World) : Prop := ∃ v : Int, Least zs n v ∧ e = .returned (.int .i64 v) ∧ w' = w

theorem min_any (A : Option Addr) (n c : Nat) (zs : List Int) (w : World) (h : Ints w A n zs) (hn : n ≤ 9223372036854775807) (h0 : 0 < n) :
    Calls Try.prog 97 #[.slice A n c] w (SomeLeast zs n w) := by
  obtain ⟨b, off, rfl, hc⟩ := h.at_ h0
  rw [Nat.add_zero] at hc
  have h01 : (1 : Int) ≤ n := by omega
  go_enter Try.func97, Try.ntmps97
  go_wp2
  go_loop [3, 4] (fun m i => ∃ (k : Nat) (v : Int), 1 ≤ k ∧ k ≤ n ∧ i = .int .i64 k ∧ m = .int .i64 v ∧ Least zs k v) (fun _ i => n - (intOf i).toNat)
  case atStart => exact ⟨1, _, by omega, by omega, rfl, rfl, least_first zs⟩
  case round =>
    obtain ⟨k, v, hk1, hk, rfl, rfl, hle⟩ := hrel
    by_cases hlt : k < n
    · obtain ⟨b', off', e, hc'⟩ := h.at_ hlt
      obtain ⟨rfl, rfl⟩ : b = b' ∧ off = off' := by injection e with e; injection e with e1 e2; exact ⟨e1, e2⟩
      clear e
      have HS := Lib.hid hle.step
      go_wp2
      go_round
      case rel => exact ⟨k + 1, _, by omega, by omega, by go_num, rfl, HS.out⟩
      case measure => simp [intOf]; omega
    · obtain rfl : k = n := by omega
      go_wp2
      go_ret
      exact ⟨v, hle, rfl, rfl⟩

/-! ### num.sizes -/
def szB (most : Int) (zs : List Int) : Bool := decide (0 ≤ most ∧ ∀ z ∈ zs, 0 ≤ z)
theorem least_all (zs : List Int) (v : Int) (h : Least zs zs.length v) : 0 ≤ v ↔ ∀ z ∈ zs, 0 ≤ z := by
  obtain ⟨⟨j, hj, e⟩, hl⟩ := h
  constructor
  · intro h0 z hz
    obtain ⟨i, hi, rfl⟩ := List.getElem_of_mem hz
    have := hl i hi
    simp [List.getD, hi] at this
    omega
  · intro h
    rw [← e]
    have : zs.getD j 0 = zs[j] := by simp [List.getD, hj]
    rw [this]; exact h _ (List.getElem_mem hj)
theorem sz_no (most : Int) (zs : List Int) (h : ¬ 0 ≤ most) : false = szB most zs := by unfold szB; simp [h]
theorem sz_nil (most : Int) (zs : List Int) (h : 0 ≤ most) (hz : zs.length = 0) : true = szB most zs := by
  have : zs = [] := List.eq_nil_of_length_eq_zero hz
  subst this; unfold szB; simp [h]
theorem sz_yes (most : Int) (zs : List Int) (n : Nat) (v : Int) (h : 0 ≤ most) (hn : zs.length = n) (hv : Least zs n v) : decide (0 ≤ v) = szB most zs := by
  subst hn
  have := least_all zs v hv
  unfold szB; simp only [h, true_and]
  exact decide_eq_decide.2 this
theorem sizes_any (most : Int) (A : Option Addr) (n c : Nat) (zs : List Int) (w : World) (h : Ints w A n zs) (hn : n ≤ 9223372036854775807) :
    Calls Try.prog 88 #[.int .i64 most, .slice A n c] w fun e w' => e = .returned (.bool (szB most zs)) ∧ w' = w := by
  have H := Lib.hid h
  clear h
  by_cases hm : 0 ≤ most
  · by_cases h0 : n = 0
    · subst h0
      go_enter Try.func88, Try.ntmps88
      go_wp2
      all_goals go_ret
      all_goals exact ⟨ret_bool (sz_nil most zs hm H.out.1), rfl⟩
    · have h1 : 0 < n := by omega
      have h2 : ((n : Int) == 0) = false := by simpa using h0
      go_enter Try.func88, Try.ntmps88
      go_wp2_with (go_at_call 97; refine (min_any _ _ _ zs _ H.out hn h1).mono ?_; rintro e w' ⟨v, hv, rfl, rfl⟩; have HV := Lib.hid hv; clear hv)
      all_goals go_ret
      all_goals exact ⟨ret_bool (sz_yes most zs n _ hm H.out.1 HV.out), rfl⟩
  · go_enter Try.func88, Try.ntmps88
    go_wp2
    all_goals go_ret
    all_goals exact ⟨ret_bool (sz_no most zs (by omega)), rfl⟩

/-! ### Product -/
def prodL : List Int → Int
  | [] => 1
  | z :: zs => z * prodL zs
theorem prodL_append (xs ys : List Int) : prodL (xs ++ ys) = prodL xs * prodL ys := by
  induction xs with
  | nil => simp [prodL]
  | cons x xs ih => simp [prodL, ih, Int.mul_assoc]
theorem prodL_take (zs : List Int) (k : Nat) (hk : k < zs.length) : prodL (zs.take (k + 1)) = prodL (zs.take k) * zs.getD k 0 := by
  rw [List.take_succ_eq_append_getElem hk, prodL_append]
  simp [prodL, List.getD, hk]
theorem prodL_zero {zs : List Int} (h : (0 : Int) ∈ zs) : prodL zs = 0 := by
  induction zs with
  | nil => simp at h
  | cons z zs ih =>
    rcases List.mem_cons.1 h with h | h
    · subst h; simp [prodL]
    · simp [prodL, ih h]
theorem prodL_pos {zs : List Int} (h : ∀ z ∈ zs, 1 ≤ z) : 1 ≤ prodL zs := by
  induction zs with
  | nil => simp [prodL]
  | cons z zs ih =>
    have h1 := ih (fun y hy => h y (List.mem_cons.2 (.inr hy)))
    have h2 := h z (List.mem_cons.2 (.inl rfl))
    show 1 ≤ z * prodL zs
    have := Int.mul_le_mul h2 h1 (by omega) (by omega)
    simpa using this
theorem prodL_mono (zs : List Int) (k : Nat) (h : ∀ z ∈ zs, 1 ≤ z) : prodL (zs.take k) ≤ prodL zs := by
  have e : prodL zs = prodL (zs.take k) * prodL (zs.drop k) := by rw [← prodL_append, List.take_append_drop]
  have h1 : 1 ≤ prodL (zs.take k) := prodL_pos fun z hz => h z (List.mem_of_mem_take hz)
  have h2 : 1 ≤ prodL (zs.drop k) := prodL_pos fun z hz => h z (List.mem_of_mem_drop hz)
  rw [e]
  have := Int.mul_le_mul_of_nonneg_left h2 (show 0 ≤ prodL (zs.take k) by omega)
  simpa using this
/-- is the product told? -/
def prB (most : Int) (zs : List Int) : Bool := szB most zs && decide (prodL zs ≤ most)
def pr (most : Int) (zs : List Int) : Int := if prB most zs = true then prodL zs else 0
theorem pr_size (most : Int) (zs : List Int) (h : szB most zs = false) : Ending.returned (.tuple #[.int .i64 0, .bool false]) = .returned (.tuple #[.int .i64 (pr most zs), .bool (prB most zs)]) := by
  have h1 : prB most zs = false := by unfold prB; rw [h]; rfl
  refine ret_two ?_ h1.symm
  unfold pr; rw [h1]; rfl
theorem sz_all {most : Int} {zs : List Int} (h : szB most zs = true) : 0 ≤ most ∧ ∀ z ∈ zs, 0 ≤ z := of_decide_eq_true h
theorem pr_zero (most : Int) (zs : List Int) (h : szB most zs = true) (hz : (0 : Int) ∈ zs) : Ending.returned (.tuple #[.int .i64 0, .bool true]) = .returned (.tuple #[.int .i64 (pr most zs), .bool (prB most zs)]) := by
  have h0 := prodL_zero hz
  have h1 : prB most zs = true := by unfold prB; rw [h, h0]; simpa using (sz_all h).1
  refine ret_two ?_ h1.symm
  unfold pr; rw [h1, h0]; rfl
theorem ones {most : Int} {zs : List Int} (h : szB most zs = true) (hz : ¬ (0 : Int) ∈ zs) : ∀ z ∈ zs, 1 ≤ z := fun z hm => by
  have := (sz_all h).2 z hm
  have : z ≠ 0 := fun e => hz (e ▸ hm)
  omega
theorem pr_over (most : Int) (zs : List Int) (h : most < prodL zs) : Ending.returned (.tuple #[.int .i64 0, .bool false]) = .returned (.tuple #[.int .i64 (pr most zs), .bool (prB most zs)]) := by
  have h1 : prB most zs = false := by unfold prB; simp; intro _; omega
  refine ret_two ?_ h1.symm
  unfold pr; rw [h1]; rfl
theorem pr_yes (most : Int) (zs : List Int) (h : szB most zs = true) (hz : prodL zs ≤ most) : Ending.returned (.tuple #[.int .i64 (prodL zs), .bool true]) = .returned (.tuple #[.int .i64 (pr most zs), .bool (prB most zs)]) := by
  have h1 : prB most zs = true := by unfold prB; simp [h, hz]
  refine ret_two ?_ h1.symm
  unfold pr; rw [h1]; rfl
/-- p times z passes most just if p passes most by z. -/
theorem quo_lt (p z most : Int) (hz : 1 ≤ z) : most / z < p ↔ most < p * z := Int.ediv_lt_iff_lt_mul (by omega)

theorem getD_mem {zs : List Int} {k : Nat} (hk : k < zs.length) : zs.getD k 0 ∈ zs := by
  have : zs.getD k 0 = zs[k] := by simp [List.getD, hk]
  rw [this]; exact List.getElem_mem hk
theorem getD_one {zs : List Int} (h : ∀ z ∈ zs, 1 ≤ z) {k : Nat} (hk : k < zs.length) : 1 ≤ zs.getD k 0 := h _ (getD_mem hk)
theorem product_any (most : Int) (A : Option Addr) (n c : Nat) (zs : List Int) (w : World) (h : Ints w A n zs) (hn : n ≤ 9223372036854775807) (hm : most ≤ 9223372036854775807) (hzs : ∀ z ∈ zs, I64 z) :
    Calls Try.prog 68 #[.int .i64 most, .slice A n c] w fun e w' => e = .returned (.tuple #[.int .i64 (pr most zs), .bool (prB most zs)]) ∧ w' = w := by
  have HI := Lib.hid h
  have HZ := Lib.hid hzs
  clear h hzs
  by_cases hs : szB most zs = true
  · have HS := Lib.hid hs
    have hm0 := (sz_all hs).1
    by_cases hz : (0 : Int) ∈ zs
    · go_enter Try.func68, Try.ntmps68
      go_wp2_with (first
        | (go_at_call 88; refine (sizes_any _ _ _ _ zs _ HI.out hn).mono ?_; rintro e w' ⟨rfl, rfl⟩)
        | (go_at_call 89; refine (contains_any _ _ _ zs _ _ HI.out hn).mono ?_; rintro e w' ⟨rfl, rfl⟩))
      all_goals go_ret2
      all_goals exact ⟨pr_zero most zs HS.out hz, rfl⟩
    · by_cases hm1 : most < 1
      · go_enter Try.func68, Try.ntmps68
        go_wp2_with (first
          | (go_at_call 88; refine (sizes_any _ _ _ _ zs _ HI.out hn).mono ?_; rintro e w' ⟨rfl, rfl⟩)
          | (go_at_call 89; refine (contains_any _ _ _ zs _ _ HI.out hn).mono ?_; rintro e w' ⟨rfl, rfl⟩))
        all_goals go_ret2
        all_goals exact ⟨pr_over most zs (by have := prodL_pos (ones HS.out hz); omega), rfl⟩
      · have hm2 : 1 ≤ most := by omega
        go_enter Try.func68, Try.ntmps68
        go_wp2_with (first
          | (go_at_call 88; refine (sizes_any _ _ _ _ zs _ HI.out hn).mono ?_; rintro e w' ⟨rfl, rfl⟩)
          | (go_at_call 89; refine (contains_any _ _ _ zs _ _ HI.out hn).mono ?_; rintro e w' ⟨rfl, rfl⟩))
        go_loop [6, 19] (fun p i => ∃ k : Nat, k ≤ n ∧ i = .int .i64 k ∧ p = .int .i64 (prodL (zs.take k)) ∧ prodL (zs.take k) ≤ most) (fun _ i => n - (intOf i).toNat)
        case atStart => exact ⟨0, by omega, rfl, by simp [prodL], by simpa [prodL] using hm2⟩
        case round =>
          obtain ⟨k, hk, rfl, rfl, hp⟩ := hrel
          by_cases hlt : k < n
          · obtain ⟨b, off, rfl, hc⟩ := HI.out.at_ hlt
            have hz1 := getD_one (ones HS.out hz) (k := k) (by rw [HI.out.1]; exact hlt)
            have hz2 := (HZ.out (zs.getD k 0) (getD_mem (by rw [HI.out.1]; exact hlt))).2
            have hp0 : 1 ≤ prodL (zs.take k) := prodL_pos fun z hz' => ones HS.out hz z (List.mem_of_mem_take hz')
            have HT := Lib.hid (prodL_take zs k (by rw [HI.out.1]; exact hlt))
            have HM := Lib.hid (prodL_mono zs (k + 1) (ones HS.out hz))
            generalize zs.getD k 0 = z at *
            generalize hP : prodL (zs.take k) = P at *
            have HP := Lib.hid hP
            clear hP
            have hm3 : 0 ≤ most / z ∧ most / z ≤ most := ⟨Int.ediv_nonneg (by omega) (by omega), Int.ediv_le_self _ (by omega)⟩
            obtain ⟨hm4, hm5⟩ := hm3
            by_cases hgo : P * z ≤ most
            · have hq : P ≤ most / z := by have := quo_lt P z most hz1; omega
              have hw : wrap64 (P * z) = P * z := wrap64_le _ (by have := Int.mul_nonneg (show 0 ≤ P by omega) (show 0 ≤ z by omega); omega) (by omega)
              have HW := Lib.hid hw
              have HG := Lib.hid hgo
              clear hw hgo
              go_wp2
              go_round
              case rel => exact ⟨k + 1, by omega, by go_num, by rw [HW.out, HT.out], by rw [HT.out]; exact HG.out⟩
              case measure => simp [intOf]; omega
            · have hq : most / z < P := by rw [quo_lt _ _ _ hz1]; omega
              have HG := Lib.hid hgo
              clear hgo
              go_wp2
              go_ret2
              exact ⟨pr_over most zs (by have h1 := HM.out; have h2 := HG.out; rw [HT.out] at h1; omega), rfl⟩
          · obtain rfl : k = n := by omega
            go_wp2
            go_ret2
            have hall : zs.take k = zs := List.take_of_length_le (by rw [HI.out.1]; exact Nat.le_refl _)
            exact ⟨by rw [hall] at hp ⊢; exact pr_yes most zs HS.out hp, rfl⟩
  · have hs' : szB most zs = false := by simpa using hs
    have HS := Lib.hid hs'
    clear hs
    go_enter Try.func68, Try.ntmps68
    go_wp2_with (go_at_call 88; refine (sizes_any _ _ _ _ zs _ HI.out hn).mono ?_; rintro e w' ⟨rfl, rfl⟩)
    all_goals go_ret2
    all_goals exact ⟨pr_size most zs HS.out, rfl⟩

/-! ### Total -/
def sumL : List Int → Int
  | [] => 0
  | z :: zs => z + sumL zs
theorem sumL_append (xs ys : List Int) : sumL (xs ++ ys) = sumL xs + sumL ys := by
  induction xs with
  | nil => simp [sumL]
  | cons x xs ih => simp [sumL, ih, Int.add_assoc]
theorem sumL_take (zs : List Int) (k : Nat) (hk : k < zs.length) : sumL (zs.take (k + 1)) = sumL (zs.take k) + zs.getD k 0 := by
  rw [List.take_succ_eq_append_getElem hk, sumL_append]
  simp [sumL, List.getD, hk]
theorem sumL_nonneg {zs : List Int} (h : ∀ z ∈ zs, 0 ≤ z) : 0 ≤ sumL zs := by
  induction zs with
  | nil => simp [sumL]
  | cons z zs ih =>
    have h1 := ih (fun y hy => h y (List.mem_cons.2 (.inr hy)))
    have h2 := h z (List.mem_cons.2 (.inl rfl))
    show 0 ≤ z + sumL zs
    omega
theorem sumL_mono (zs : List Int) (k : Nat) (h : ∀ z ∈ zs, 0 ≤ z) : sumL (zs.take k) ≤ sumL zs := by
  have e : sumL zs = sumL (zs.take k) + sumL (zs.drop k) := by rw [← sumL_append, List.take_append_drop]
  have h2 : 0 ≤ sumL (zs.drop k) := sumL_nonneg fun z hz => h z (List.mem_of_mem_drop hz)
  omega
def tlB (most : Int) (zs : List Int) : Bool := szB most zs && decide (sumL zs ≤ most)
def tl (most : Int) (zs : List Int) : Int := if tlB most zs = true then sumL zs else 0
theorem tl_no (most : Int) (zs : List Int) (h1 : tlB most zs = false) : Ending.returned (.tuple #[.int .i64 0, .bool false]) = .returned (.tuple #[.int .i64 (tl most zs), .bool (tlB most zs)]) := by
  refine ret_two ?_ h1.symm
  unfold tl; rw [h1]; rfl
theorem tl_size (most : Int) (zs : List Int) (h : szB most zs = false) : tlB most zs = false := by unfold tlB; rw [h]; rfl
theorem tl_over (most : Int) (zs : List Int) (h : most < sumL zs) : tlB most zs = false := by unfold tlB; simp; intro _; omega
theorem tl_yes (most : Int) (zs : List Int) (h : szB most zs = true) (hz : sumL zs ≤ most) : Ending.returned (.tuple #[.int .i64 (sumL zs), .bool true]) = .returned (.tuple #[.int .i64 (tl most zs), .bool (tlB most zs)]) := by
  have h1 : tlB most zs = true := by unfold tlB; simp [h, hz]
  refine ret_two ?_ h1.symm
  unfold tl; rw [h1]; rfl

theorem all_take (zs : List Int) (k : Nat) (hk : k < zs.length) (h : ∀ z ∈ zs.take k, 0 ≤ z) : 0 ≤ zs.getD k 0 → ∀ z ∈ zs.take (k + 1), 0 ≤ z := by
  intro h0 z hz
  rw [List.take_succ_eq_append_getElem hk, List.mem_append] at hz
  rcases hz with hz | hz
  · exact h z hz
  · have : zs.getD k 0 = zs[k] := by simp [List.getD, hk]
    simp at hz
    rw [hz, ← this]; exact h0
theorem sz_neg (most : Int) (zs : List Int) (z : Int) (hm : z ∈ zs) (h : z < 0) : szB most zs = false :=
  decide_eq_false fun hh => by have := hh.2 z hm; omega
def RefPr (most : Int) (zs : List Int) (w : World) (e : Ending) (w' : World) : Prop :=
  ∃ p : Int, (prB most zs = true → p = prodL zs) ∧ e = .returned (.tuple #[.int .i64 p, .bool (prB most zs)]) ∧ ∃ m, w' = w.drewN m
theorem refPr_no (most : Int) (zs : List Int) (w : World) (p : Int) (m : Nat) (h : prB most zs = false) : RefPr most zs w (.returned (.tuple #[.int .i64 p, .bool false])) (w.drewN m) :=
  ⟨p, fun h' => (by rw [h] at h'; cases h'), by rw [h], m, rfl⟩
theorem refPr_yes (most : Int) (zs : List Int) (w : World) (p : Int) (m : Nat) (h : szB most zs = true) (hp : p = prodL zs) (b : Bool) (hb : b = decide (p ≤ most)) : RefPr most zs w (.returned (.tuple #[.int .i64 p, .bool b])) (w.drewN m) :=
  ⟨p, fun _ => hp, by rw [hb, hp]; unfold prB; rw [h, Bool.true_and], m, rfl⟩
theorem prB_size (most : Int) (zs : List Int) (h : szB most zs = false) : prB most zs = false := by unfold prB; rw [h]; rfl
theorem prB_over (most : Int) (zs : List Int) (h : most < prodL zs) : prB most zs = false := by unfold prB; simp; intro _; omega
theorem zero_take (zs : List Int) (k : Nat) (hk : k < zs.length) : (decide (0 ∈ zs.take k) || (zs.getD k 0 == 0)) = decide ((0 : Int) ∈ zs.take (k + 1)) := by
  have : zs.getD k 0 = zs[k] := by simp [List.getD, hk]
  rw [this]
  by_cases h0 : (0 : Int) ∈ zs.take k
  · have : (0 : Int) ∈ zs.take (k + 1) := by rw [List.take_succ_eq_append_getElem hk]; exact List.mem_append_left _ h0
    simp [h0, this]
  · by_cases h1 : zs[k] = 0
    · have : (0 : Int) ∈ zs.take (k + 1) := by rw [List.take_succ_eq_append_getElem hk, h1]; exact List.mem_append_right _ (by simp)
      simp [h1, this]
    · have : ¬ (0 : Int) ∈ zs.take (k + 1) := by
        rw [List.take_succ_eq_append_getElem hk, List.mem_append]
        rintro (h | h)
        · exact h0 h
        · simp at h; exact h1 h.symm
      have h2 : (zs[k] == 0) = false := by simpa using h1
      rw [h2]; simp [h0, this]

theorem i64_wrap_le (n : Int) (h1 : -9223372036854775808 ≤ n) (h2 : n ≤ 9223372036854775807) : IntKind.i64.wrap n = n := by
  rw [IntKind.wrap_i64]; omega
theorem refProduct_any (most : Int) (A : Option Addr) (n c : Nat) (zs : List Int) (w : World) (h : Ints w A n zs) (hn : n ≤ 9223372036854775807) (hm : most ≤ 9223372036854775807) (hzs : ∀ z ∈ zs, I64 z) :
    Calls Try.prog 65 #[.int .i64 most, .slice A n c] w (RefPr most zs w) := by
  have HI := Lib.hid h
  have HZ := Lib.hid hzs
  clear h hzs
  go_enter Try.func65, Try.ntmps65
  go_wp2
  go_loop [6, 7] (fun z i => ∃ k : Nat, k ≤ n ∧ i = .int .i64 k ∧ z = .bool (decide ((0 : Int) ∈ zs.take k)) ∧ ∀ z ∈ zs.take k, 0 ≤ z) (fun _ i => n - (intOf i).toNat)
  case atStart => exact ⟨0, by omega, rfl, by simp, by simp⟩
  case round =>
    obtain ⟨k, hk, rfl, rfl, hz⟩ := hrel
    have HA := Lib.hid hz
    clear hz
    by_cases hlt : k < n
    · obtain ⟨b, off, rfl, hc⟩ := HI.out.at_ hlt
      have hkl : k < zs.length := by rw [HI.out.1]; exact hlt
      have HN := Lib.hid (all_take zs k hkl HA.out)
      have HE := Lib.hid (getD_mem hkl)
      have HD := Lib.hid (zero_take zs k hkl)
      generalize zs.getD k 0 = z at *
      generalize hD : decide ((0 : Int) ∈ zs.take k) = d at *
      clear hD
      have HL := Lib.hid hkl
      clear hkl
      by_cases hneg : z < 0
      · go_wp2
        all_goals go_ret2
        all_goals exact refPr_no most zs w 0 0 (prB_size most zs (sz_neg most zs z HE.out hneg))
      · cases d
        all_goals
          go_wp2
          go_round
          case rel => exact ⟨k + 1, by omega, by go_num, by first | (rw [← HD.out]; rfl) | (rw [← HD.out, Bool.false_or]), HN.out (by omega)⟩
          case measure => simp [intOf]; omega
    · obtain rfl : k = n := by omega
      have hall : zs.take k = zs := List.take_of_length_le (by rw [HI.out.1]; exact Nat.le_refl _)
      rw [hall] at HA ⊢
      clear hall
      by_cases hneg : most < 0
      · go_wp2
        go_ret2
        exact refPr_no most zs w 0 0 (prB_size most zs (decide_eq_false fun h => by omega))
      · have HS := Lib.hid (show szB most zs = true from decide_eq_true ⟨by omega, HA.out⟩)
        by_cases hz : (0 : Int) ∈ zs
        · go_wp2
          go_ret2
          exact refPr_yes most zs w 0 0 HS.out (prodL_zero hz).symm true (by simp; omega)
        · have HO := Lib.hid (ones HS.out hz)
          go_wp2
          go_loopw [8, 9] (fun p i wr => ∃ (j m : Nat), j ≤ k ∧ i = .int .i64 j ∧ p = .int .i64 (prodL (zs.take j)) ∧ prodL (zs.take j) ≤ 9223372036854775807 ∧ (1 ≤ j → prodL (zs.take j) ≤ most) ∧ wr = w.drewN m) (fun _ i _ => k - (intOf i).toNat)
          case atStart => exact ⟨0, 0, by omega, rfl, by simp [prodL], by simp [prodL], by omega, rfl⟩
          case round =>
            obtain ⟨j, m, hj, rfl, rfl, hp, hp1, rfl⟩ := hrel
            have hp0 : 1 ≤ prodL (zs.take j) := prodL_pos fun z hz' => HO.out z (List.mem_of_mem_take hz')
            by_cases hlt : j < k
            · obtain ⟨b, off, rfl, hc⟩ := HI.out.at_ hlt
              have hz1 := getD_one HO.out (k := j) (by rw [HI.out.1]; exact hlt)
              have hz2 := (HZ.out (zs.getD j 0) (getD_mem (by rw [HI.out.1]; exact hlt))).2
              have HT := Lib.hid (prodL_take zs j (by rw [HI.out.1]; exact hlt))
              have HM := Lib.hid (prodL_mono zs (j + 1) HO.out)
              generalize zs.getD j 0 = z at *
              generalize hP : prodL (zs.take j) = P at *
              have HP := Lib.hid hP
              clear hP
              have hm3 : 0 ≤ most / P ∧ most / P ≤ most := ⟨Int.ediv_nonneg (by omega) (by omega), Int.ediv_le_self _ (by omega)⟩
              obtain ⟨hm4, hm5⟩ := hm3
              have hpn : (P == 0) = false := by simp; omega
              have hqd : IntKind.i64.wrap (most.tdiv P) = most / P := by
                rw [Int.tdiv_eq_ediv_of_nonneg (by omega)]
                exact i64_wrap_le (most / P) (by omega) (by omega)
              clear hp1
              by_cases hgo : z * P ≤ most
              · have hq : z ≤ most / P := by have := quo_lt z P most hp0; omega
                have hw : wrap64 (P * z) = P * z := wrap64_le _ (by have := Int.mul_nonneg (show 0 ≤ P by omega) (show 0 ≤ z by omega); omega) (by rw [Int.mul_comm]; omega)
                have HW := Lib.hid hw
                have HG := Lib.hid hgo
                clear hw hgo
                go_wp2
                go_quiet (fail)
                go_wp2
                go_roundw
                case rel => exact ⟨j + 1, _, by omega, by go_num, by rw [HW.out, HT.out], by rw [HT.out, Int.mul_comm]; have := HG.out; omega, fun _ => by rw [HT.out, Int.mul_comm]; exact HG.out, rfl⟩
                case measure => simp [intOf]; omega
              · have hq : most / P < z := by rw [quo_lt _ _ _ hp0]; omega
                have HG := Lib.hid hgo
                clear hgo
                go_wp2
                go_quiet (fail)
                go_wp2
                go_ret2
                rw [World.drewN_drewN]
                exact refPr_no most zs w 0 _ (prB_over most zs (by have h1 := HM.out; have h2 := HG.out; rw [HT.out, Int.mul_comm] at h1; omega))
            · obtain rfl : j = k := by omega
              go_wp2
              go_ret2
              have hall : zs.take j = zs := List.take_of_length_le (by rw [HI.out.1]; exact Nat.le_refl _)
              exact refPr_yes most zs w _ m HS.out (by rw [hall]) _ rfl
end Go.Proofs.Ytkpfhjjojchdlaa
