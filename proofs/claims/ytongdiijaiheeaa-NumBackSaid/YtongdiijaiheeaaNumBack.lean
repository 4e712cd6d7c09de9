/-
  THE WALK OF NumBack: a quotient times b, and what is left, is a, wherever that goes round; steps are counted one by one.
-/
import Derived.Test.YtongdiijaiheeaaKnows
import Derived.Deep.DeepCutAuto
namespace Go.Proofs.Ytongdiijaiheeaa
open Go.ChangeShapes Go.WideShapes Go.ChangeAt Go.RowKit
set_option linter.unusedVariables false

theorem back_whole (a b : Int) (ha : I64 a) : ¬ b = 0 → wrap64 (wrap64 (dv a b * b) + md a b) = a := by
  intro hb
  have h := Int.fdiv_mul_add_fmod a b
  have h1 : wrap64 (wrap64 (dv a b * b) + md a b) = wrap64 (a.fdiv b * b + a.fmod b) := by
    unfold dv md
    rw [if_neg hb, if_neg hb]
    generalize a.fdiv b = q
    generalize a.fmod b = r
    have h2 : ∃ k : Int, wrap64 q = q - 18446744073709551616 * k := ⟨(q + 9223372036854775808) / 18446744073709551616, by unfold wrap64; omega⟩
    obtain ⟨k, hk⟩ := h2
    rw [hk, Int.sub_mul, Int.mul_assoc]
    generalize q * b = x
    generalize k * b = y
    unfold wrap64
    omega
  rw [h1, h]
  exact wrap64_le _ ha.1 ha.2

theorem few_first (f t s : Int) (h : ¬ ((-1000 ≤ f ∧ f ≤ 1000) ∧ (-1000 ≤ t ∧ t ≤ 1000) ∧ (-1000 ≤ s ∧ s ≤ 1000))) :
    (decide (f < -1000) = true) ∨ (decide (f < -1000) = false ∧ decide (1000 < f) = true) ∨ (decide (f < -1000) = false ∧ decide (1000 < f) = false ∧ decide (t < -1000) = true) ∨ (decide (f < -1000) = false ∧ decide (1000 < f) = false ∧ decide (t < -1000) = false ∧ decide (1000 < t) = true) ∨ (decide (f < -1000) = false ∧ decide (1000 < f) = false ∧ decide (t < -1000) = false ∧ decide (1000 < t) = false ∧ decide (s < -1000) = true) ∨ (decide (f < -1000) = false ∧ decide (1000 < f) = false ∧ decide (t < -1000) = false ∧ decide (1000 < t) = false ∧ decide (s < -1000) = false ∧ decide (1000 < s) = true) := by
  simp only [decide_eq_false_iff_not, decide_eq_true_eq]
  omega
theorem few_in (f t s : Int) (h : ((-1000 ≤ f ∧ f ≤ 1000) ∧ (-1000 ≤ t ∧ t ≤ 1000) ∧ (-1000 ≤ s ∧ s ≤ 1000))) :
    decide (f < -1000) = false ∧ decide (1000 < f) = false ∧ decide (t < -1000) = false ∧ decide (1000 < t) = false ∧ decide (s < -1000) = false ∧ decide (1000 < s) = false := by
  simp only [decide_eq_false_iff_not]
  omega
/-- steps up, counted one by one. -/
theorem count_up (f t s : Int) (k : Nat) (h : ((-1000 ≤ f ∧ f ≤ 1000) ∧ (-1000 ≤ t ∧ t ≤ 1000) ∧ (-1000 ≤ s ∧ s ≤ 1000))) (hs : 0 < s) (hx : t ≤ f + k * s) (hl : 1 ≤ k → f + (k - 1) * s < t) : stB f t s = true ∧ st f t s = k := by
  have h1 : stB f t s = true := by unfold stB; exact decide_eq_true (by omega)
  refine ⟨h1, ?_⟩
  unfold st
  rw [h1, if_pos rfl, if_pos hs]
  by_cases hk : k = 0
  · subst hk
    rw [if_neg (by simp at hx; omega)]; rfl
  · have hl := hl (by omega)
    have e1 : ((k : Int) - 1) * s = k * s - s := by rw [Int.sub_mul]; omega
    have h0 : 0 ≤ ((k : Int) - 1) * s := Int.mul_nonneg (by omega) (by omega)
    rw [if_pos (by omega)]
    have : (t - f - 1) / s = (k : Int) - 1 := by
      apply Int.le_antisymm
      · have := (Int.ediv_lt_iff_lt_mul (a := t - f - 1) (b := (k : Int)) hs).2 (by omega)
        omega
      · exact (Int.le_ediv_iff_mul_le hs).2 (by omega)
    omega
theorem st_neg (f t s : Int) : st (-f) (-t) (-s) = st f t s ∧ stB (-f) (-t) (-s) = stB f t s := by
  have hb : stB (-f) (-t) (-s) = stB f t s := by
    unfold stB
    rw [Bool.eq_iff_iff]
    simp only [decide_eq_true_eq]
    omega
  refine ⟨?_, hb⟩
  unfold st
  rw [hb]
  by_cases h : stB f t s = true
  · rw [if_pos h, if_pos h]
    have hs : s ≠ 0 := by unfold stB at h; have := of_decide_eq_true h; exact this.1
    by_cases h1 : 0 < s
    · rw [if_neg (by omega), if_pos h1]
      by_cases h2 : f < t
      · rw [if_pos (by omega), if_pos h2, Int.neg_neg]
        congr 2; omega
      · rw [if_neg (by omega), if_neg h2]
    · rw [if_pos (by omega), if_neg h1]
      by_cases h2 : t < f
      · rw [if_pos (by omega), if_pos h2]
        congr 2; omega
      · rw [if_neg (by omega), if_neg h2]
  · rw [if_neg h, if_neg h]
theorem count_down (f t s : Int) (k : Nat) (h : ((-1000 ≤ f ∧ f ≤ 1000) ∧ (-1000 ≤ t ∧ t ≤ 1000) ∧ (-1000 ≤ s ∧ s ≤ 1000))) (hs : s < 0) (hx : f + k * s ≤ t) (hl : 1 ≤ k → t < f + (k - 1) * s) : stB f t s = true ∧ st f t s = k := by
  have := count_up (-f) (-t) (-s) k (by omega) (by omega) (by rw [Int.mul_neg]; omega) (fun h1 => by have := hl h1; rw [Int.mul_neg]; omega)
  rw [(st_neg f t s).1, (st_neg f t s).2] at this
  exact this
theorem st_still (f t : Int) : stB f t 0 = false ∧ st f t 0 = 0 := by
  have h1 : stB f t 0 = false := by unfold stB; simp
  refine ⟨h1, ?_⟩
  unfold st; rw [h1]; rfl

set_option maxRecDepth 100000 in
set_option maxHeartbeats 2000000 in
theorem numBack_walk (a b f t s : Int) (ha : I64 a) (hb : I64 b) (w : World) :
    Calls Try.prog 6 #[.int .i64 a, .int .i64 b, .int .i64 f, .int .i64 t, .int .i64 s] w fun e w' => e = .returned (.bool true) ∧ Below w.heap.size w w' := by
  have HA := Lib.hid ha
  have HB := Lib.hid hb
  clear ha hb
  go_enter Try.func6, Try.ntmps6
  go_upto_region 3 with (first
    | (go_at_call 12; refine (div_any _ _ _).mono ?_; rintro e w' ⟨rfl, rfl⟩)
    | (go_at_call 14; refine (mod_any _ _ HB.out _).mono ?_; rintro e w' ⟨rfl, rfl⟩))
  go_cut [12, 14, 77] (fun _ _ v wx => v = .bool false ∧ wx = w')
  case first =>
    by_cases hb : b = 0
    · subst hb
      have e1 : dv a 0 = 0 := dv_zero a
      have e2 : md a 0 = 0 := rfl
      go_wp2
      go_meet
      exact ⟨rfl, rfl⟩
    · have hw := back_whole a b HA.out hb
      have hn : (b != 0) = true := by simpa using hb
      have hm := md_between a b hb
      have hd : decide (b ≠ 0) = true := by simpa using hb
      generalize dv a b = q at *
      generalize md a b = r at *
      rcases Int.lt_or_gt_of_ne hb with hlt | hgt
      · obtain ⟨m1, m2⟩ := hm.2 hlt
        have m3 : decide (0 < r) = false := by simp; omega
        have m4 : decide (r ≤ b) = false := by simp; omega
        clear hm
        go_wp2
        go_meet
        exact ⟨rfl, rfl⟩
      · obtain ⟨m1, m2⟩ := hm.1 hgt
        have m3 : decide (r < 0) = false := by simp; omega
        have m4 : decide (b ≤ r) = false := by simp; omega
        clear hm
        go_wp2
        go_meet
        exact ⟨rfl, rfl⟩
  case rest =>
    obtain ⟨rfl, rfl⟩ := hcut
    clear HA HB
    by_cases h : ((-1000 ≤ f ∧ f ≤ 1000) ∧ (-1000 ≤ t ∧ t ≤ 1000) ∧ (-1000 ≤ s ∧ s ≤ 1000))
    · have H := Lib.hid h
      have b1 := few_in f t s h
      clear h
      obtain ⟨b2, b3, b4, b5, b6, b7⟩ := b1
      by_cases hs0 : s = 0
      · subst hs0
        have hst := st_still f t
        have HS := Lib.hid hst
        clear hst
        go_wp2_with (first
          | (go_at_call 7; refine (knows_any _).mono ?_; rintro e w' ⟨rfl, hB⟩)
          | (go_at_call 20; refine (steps_any _ _ _ _).mono ?_; rintro e w' ⟨rfl, rfl⟩; rw [HS.out.1, HS.out.2]))
        go_ret
        exact ⟨rfl, hB⟩
      · have hz : (s == 0) = false := by simpa using hs0
        obtain ⟨⟨r1, r2⟩, ⟨r3, r4⟩, ⟨r5, r6⟩⟩ := H.out
        by_cases hs : 0 < s
        · go_wp2_with (first
            | (go_at_call 7; refine (knows_any _).mono ?_; rintro e w' ⟨rfl, hB⟩)
            | (go_at_call 20; refine (steps_any _ _ _ _).mono ?_; rintro e w' ⟨rfl, rfl⟩))
          go_loop [17, 18] (fun c x => ∃ (k : Nat) (v : Int), c = .int .i64 k ∧ x = .int .i64 v ∧ v = f + k * s ∧ (1 ≤ k → f + (k - 1) * s < t) ∧ -1000 ≤ v ∧ v ≤ 2000 ∧ (k : Int) ≤ v + 1000) (fun _ x => (t - intOf x).toNat)
          case atStart => exact ⟨0, f, rfl, rfl, by simp, by omega, by omega, by omega, by omega⟩
          case round =>
            obtain ⟨k, v, rfl, rfl, hv, hl, v1, v2, v3⟩ := hrel
            have HV := Lib.hid hv
            have HL := Lib.hid hl
            clear hv hl
            by_cases hlt : v < t
            · have hn : v + s = f + ((k + 1 : Nat) : Int) * s := by rw [HV.out, Int.natCast_add, Int.add_mul]; simp; omega
              have HN := Lib.hid hn
              clear hn
              go_wp2
              go_round
              case rel => exact ⟨k + 1, v + s, by go_num, rfl, HN.out, fun _ => by have := HV.out; simp; omega, by omega, by omega, by omega⟩
              case measure => simp [intOf]; omega
            · have hst := count_up f t s k H.out hs (by have := HV.out; omega) HL.out
              rw [hst.1, hst.2]
              clear hst
              go_wp2
              go_ret
              exact ⟨rfl, hB⟩
        · have hs' : s < 0 := by omega
          go_wp2_with (first
            | (go_at_call 7; refine (knows_any _).mono ?_; rintro e w' ⟨rfl, hB⟩)
            | (go_at_call 20; refine (steps_any _ _ _ _).mono ?_; rintro e w' ⟨rfl, rfl⟩))
          go_loop [17, 18] (fun c x => ∃ (k : Nat) (v : Int), c = .int .i64 k ∧ x = .int .i64 v ∧ v = f + k * s ∧ (1 ≤ k → t < f + (k - 1) * s) ∧ v ≤ 1000 ∧ -2000 ≤ v ∧ (k : Int) ≤ 1000 - v) (fun _ x => (intOf x - t).toNat)
          case atStart => exact ⟨0, f, rfl, rfl, by simp, by omega, by omega, by omega, by omega⟩
          case round =>
            obtain ⟨k, v, rfl, rfl, hv, hl, v1, v2, v3⟩ := hrel
            have HV := Lib.hid hv
            have HL := Lib.hid hl
            clear hv hl
            by_cases hlt : t < v
            · have hn : v + s = f + ((k + 1 : Nat) : Int) * s := by rw [HV.out, Int.natCast_add, Int.add_mul]; simp; omega
              have HN := Lib.hid hn
              clear hn
              go_wp2
              go_round
              case rel => exact ⟨k + 1, v + s, by go_num, rfl, HN.out, fun _ => by have := HV.out; simp; omega, by omega, by omega, by omega⟩
              case measure => simp [intOf]; omega
            · have hst := count_down f t s k H.out hs' (by have := HV.out; omega) HL.out
              rw [hst.1, hst.2]
              clear hst
              go_wp2
              go_ret
              exact ⟨rfl, hB⟩
    · have h' := few_first f t s h
      clear h
      rcases h' with h2 | ⟨h2, h3⟩ | ⟨h2, h3, h4⟩ | ⟨h2, h3, h4, h5⟩ | ⟨h2, h3, h4, h5, h6⟩ | ⟨h2, h3, h4, h5, h6, h7⟩
      all_goals
        go_wp2_with (go_at_call 7; refine (knows_any _).mono ?_; rintro e w' ⟨rfl, hB⟩)
        all_goals go_ret
        all_goals exact ⟨rfl, hB⟩
end Go.Proofs.Ytongdiijaiheeaa
