/-
  Layer 4: slices.BinarySearchFunc, order's Find.
-/
import Derived.Test.YtffobpbpdnamnaaBack4
namespace Go.Proofs.Ytffobpbpdnamnaa
open Go.ChangeShapes Go.WideShapes Go.ChangeAt Go.RowKit
set_option linter.unusedVariables false

/-- l comes in order by K. -/
def UpK (K : Int → Int) (l : List Int) : Prop := ∀ i j, i ≤ j → j < l.length → K (l.getD i 0) ≤ K (l.getD j 0)
/-- k is where x would stand in l, by K. -/
def AtK (K : Int → Int) (l : List Int) (x : Int) (k : Nat) : Prop := k ≤ l.length ∧ (∀ i, i < k → K (l.getD i 0) < K x) ∧ ∀ i, k ≤ i → i < l.length → K x ≤ K (l.getD i 0)
theorem AtK.one {K : Int → Int} {l : List Int} {x : Int} {k m : Nat} (h : AtK K l x k) (h' : AtK K l x m) : k = m := by
  rcases Nat.lt_trichotomy k m with hlt | e | hgt
  · exact absurd (h'.2.1 k hlt) (Int.not_lt.2 (h.2.2 k (Nat.le_refl _) (by have := h'.1; omega)))
  · exact e
  · exact absurd (h.2.1 m hgt) (Int.not_lt.2 (h'.2.2 m (Nat.le_refl _) (by have := h.1; omega)))
def FindEnd (K : Int → Int) (l : List Int) (x : Int) (w : World) (e : Ending) (w' : World) : Prop :=
  ∃ (k : Nat) (b : Bool), AtK K l x k ∧ (b = true ↔ k < l.length ∧ K (l.getD k 0) = K x) ∧ e = .returned (.tuple #[.int .i64 (k : Int), .bool b]) ∧ w' = w
set_option maxHeartbeats 1000000 in
theorem search4_any (f : FuncId) (K : Int → Int) (A : Option Addr) (n c : Nat) (l : List Int) (x : Int) (B : Nat) (w : World) (hf : IsCmp f K) (h : Nums w B A n l) (hu : UpK K l) (hn : n ≤ 1048576) :
    Calls Try.prog 28 #[.slice A n c, .int .i64 x, .func (.func f) #[] #[]] w (FindEnd K l x w) := by
  have H := Lib.hid h
  have HL := Lib.hid h.1
  have HU := Lib.hid hu
  have HF := Lib.hid hf.2
  have hpl := hf.1
  unfold Plain at hpl
  clear h hu hf
  go_enter Try.func28, Try.ntmps28
  go_wp2
  go_loop [9, 10, 11] (fun i j _ => ∃ p q : Nat, p ≤ q ∧ q ≤ n ∧ i = .int .i64 p ∧ j = .int .i64 q ∧ (∀ t, t < p → K (l.getD t 0) < K x) ∧ (∀ t, q ≤ t → t < n → K x ≤ K (l.getD t 0))) (fun i j _ => ((intOf j) - (intOf i)).toNat)
  case atStart => exact ⟨0, n, by omega, by omega, rfl, rfl, fun t ht => by omega, fun t h1 h2 => by omega⟩
  case round =>
    obtain ⟨p, q, hpq, hq, rfl, rfl, h1, h2⟩ := hrel
    have H1 := Lib.hid h1
    have H2 := Lib.hid h2
    clear h1 h2
    by_cases hlt : p < q
    · obtain ⟨m, hm⟩ : ∃ m, m = (p + q) / 2 := ⟨_, rfl⟩
      have hm1 : p ≤ m := by omega
      have hm2 : m < q := by omega
      have hmi : ((p : Int) + (q : Int)) / 2 = (m : Int) := by omega
      have hwu : IntKind.u64.wrap ((p : Int) + (q : Int)) = (p : Int) + (q : Int) := by rw [IntKind.wrap_u64]; omega
      obtain ⟨b, off, rfl, _, hc⟩ := H.out.2.at_ (k := m) (by omega)
      have HV := Lib.hid (show l.getD m 0 = l.getD m 0 from rfl)
      generalize hv : l.getD m 0 = v at *
      have HVV := Lib.hid hv
      clear hm hv
      have HCM := Lib.hid (HF.out v x)
      by_cases he : K v < K x
      · have hb : decide (cmpI (K v) (K x) < 0) = true := decide_eq_true (cmpI_lt.2 he)
        have HE := Lib.hid he
        clear he
        go_wp2_with ((with_reducible refine (HCM.out _).mono ?_); rintro e w' ⟨rfl, rfl⟩)
        go_round
        case rel => exact ⟨m + 1, q, by omega, by omega, by go_num, rfl, fun t ht => by
          have h1 := HU.out t m (by omega) (by rw [HL.out]; omega)
          rw [HVV.out] at h1
          exact Int.lt_of_le_of_lt h1 HE.out, H2.out⟩
        case measure => simp [intOf]; omega
      · have hb : decide (cmpI (K v) (K x) < 0) = false := decide_eq_false fun h => he (cmpI_lt.1 h)
        have HE := Lib.hid (Int.not_lt.1 he)
        clear he
        go_wp2_with ((with_reducible refine (HCM.out _).mono ?_); rintro e w' ⟨rfl, rfl⟩)
        go_round
        case rel => exact ⟨p, m, by omega, by omega, rfl, rfl, H1.out, fun t h1 h2 => by
          have h3 := HU.out m t h1 (by rw [HL.out]; omega)
          rw [HVV.out] at h3
          have h4 := HE.out
          omega⟩
        case measure => simp [intOf]; omega
    · obtain rfl : p = q := by omega
      have HAT : Hid (AtK K l x p) := Lib.hid ⟨by rw [HL.out]; exact hq, H1.out, fun i h1 h2 => H2.out i h1 (by rw [← HL.out]; exact h2)⟩
      by_cases hp : p < n
      · have hd : decide ((p : Int) < (n : Int)) = true := by simp; omega
        obtain ⟨b, off, rfl, _, hc⟩ := H.out.2.at_ (k := p) hp
        generalize hv : l.getD p 0 = v at *
        have HVV := Lib.hid hv
        clear hv
        have HCM := Lib.hid (HF.out v x)
        by_cases he : K v = K x
        · have hb : (cmpI (K v) (K x) == 0) = true := by simp; exact cmpI_eq.2 he
          have HE := Lib.hid he
          clear he
          go_wp2_with ((with_reducible refine (HCM.out _).mono ?_); rintro e w' ⟨rfl, rfl⟩)
          go_ret2
          exact ⟨p, true, HAT.out, ⟨fun _ => ⟨by rw [HL.out]; exact hp, by rw [HVV.out]; exact HE.out⟩, fun _ => rfl⟩, rfl, rfl⟩
        · have hb : (cmpI (K v) (K x) == 0) = false := by simp; exact fun h => he (cmpI_eq.1 h)
          have HE := Lib.hid he
          clear he
          go_wp2_with ((with_reducible refine (HCM.out _).mono ?_); rintro e w' ⟨rfl, rfl⟩)
          go_ret2
          exact ⟨p, false, HAT.out, ⟨fun h => by simp at h, fun h => by rw [HVV.out] at h; exact absurd h.2 HE.out⟩, rfl, rfl⟩
      · have hd : decide ((p : Int) < (n : Int)) = false := by simp; omega
        go_wp2
        go_ret2
        exact ⟨p, false, HAT.out, ⟨fun h => by simp at h, fun h => by have := h.1; rw [HL.out] at this; omega⟩, rfl, rfl⟩
set_option maxHeartbeats 1000000 in
theorem ord4Find_any (g : Value) (f : FuncId) (K : Int → Int) (A : Option Addr) (n c : Nat) (l : List Int) (x : Int) (B : Nat) (w : World) (hG : GivenCmp g f K) (h : Nums w B A n l) (hu : UpK K l) (hn : n ≤ 1048576) :
    Calls Try.prog 18 #[.slice A n c, .int .i64 x, g] w (FindEnd K l x w) := by
  have HS := Lib.hid (search4_any f K A n c l x B w hG.1 h hu hn)
  have HG := Lib.hid hG
  clear h hG hu
  go_enter Try.func18, Try.ntmps18
  go_wp2_with (first
    | (go_at_call 24; refine (HG.out.2 _).mono ?_; rintro e w' ⟨rfl, rfl⟩)
    | (go_at_call 28; refine HS.out.mono ?_; rintro e w' ⟨k, b, hk, hb, rfl, rfl⟩; have HK := Lib.hid hk; have HB := Lib.hid hb; clear hk hb))
  go_ret2
  exact ⟨k, b, HK.out, HB.out, rfl, rfl⟩
end Go.Proofs.Ytffobpbpdnamnaa
