/-
  Layer 5: the program's Compare, and the library's small functions below it.
-/
import Derived.Test.YtblmnbaejfhagaaGreatDoorPartsO5
import Derived.Deep.RegionHeld3
import Derived.Deep.DeepCutAuto
namespace Go.Proofs.YtblmnbaejfhagaaGreatDoor
open Go.ChangeShapes Go.WideShapes Go.ChangeAt Go.RowKit
set_option linter.unusedVariables false

/-! ### plain -/
def orC (a b c : Int) : Int := if a ≠ 0 then a else if b ≠ 0 then b else c
theorem intC_lt {a b : Int} (h : a < b) : intC a b = -1 := by unfold intC; rw [if_pos h]
theorem intC_gt {a b : Int} (h : b < a) : intC a b = 1 := by unfold intC; rw [if_neg (by omega), if_pos h]
theorem intC_eq (a : Int) : intC a a = 0 := by unfold intC; rw [if_neg (by omega), if_neg (by omega)]
theorem simC_fields (a b : Lab) : orC (intC a.k b.k) (intC a.n b.n) (Lib.compareBytes a.s.data.toList b.s.data.toList) = simC a b := by
  obtain ⟨ak, an, as'⟩ := a
  obtain ⟨bk, bn, bs⟩ := b
  dsimp only
  rcases Int.lt_trichotomy ak bk with h | h | h
  · rw [intC_lt h, simC_less ((ahead_iff _ _).2 (.inl h))]; rfl
  · subst h
    rw [intC_eq]
    rcases Int.lt_trichotomy an bn with h | h | h
    · rw [intC_lt h, simC_less ((ahead_iff ⟨ak, an, as'⟩ ⟨ak, bn, bs⟩).2 (.inr ⟨rfl, .inl h⟩))]; rfl
    · subst h
      rw [intC_eq]
      show Lib.compareBytes _ _ = _
      rw [← Lib.toList_data, ← Lib.toList_data]
      rcases less_total as'.toList bs.toList with h | h | h
      · rw [compareBytes_less h, simC_less ((ahead_iff ⟨ak, an, as'⟩ ⟨ak, an, bs⟩).2 (.inr ⟨rfl, .inr ⟨rfl, h⟩⟩))]
      · have := toList_inj h
        subst this
        rw [compareBytes_self, simC_same]
      · rw [compareBytes_more h]
        refine (simC_more ?_ (fun e => ?_)).symm
        · have := ahead_anti ((ahead_iff ⟨ak, an, bs⟩ ⟨ak, an, as'⟩).2 (.inr ⟨rfl, .inr ⟨rfl, h⟩⟩))
          exact this
        · injection e with _ _ e
          subst e
          rw [less_irrefl] at h; cases h
    · rw [intC_gt h]
      refine (simC_more (ahead_anti ((ahead_iff ⟨ak, bn, bs⟩ ⟨ak, an, as'⟩).2 (.inr ⟨rfl, .inl h⟩))) (fun e => ?_)).symm
      injection e with _ e _
      omega
  · rw [intC_gt h]
    refine (simC_more (ahead_anti ((ahead_iff _ _).2 (.inl h))) (fun e => ?_)).symm
    injection e with e _ _
    omega

/-! ### walks -/
theorem cmpU8_any (a b : Int) (w : World) : Calls Tryz.prog 44 #[.int .u8 a, .int .u8 b] w fun e w' => e = .returned (.int .i64 (intC a b)) ∧ w' = w := by
  rcases Int.lt_trichotomy a b with h | h | h
  · have HV := Lib.hid (intC_lt h)
    have d1 : decide (a < b) = true := by simp [h]
    go_enter Tryz.func44, Tryz.ntmps44
    go_wp2
    go_ret
    exact ⟨by rw [HV.out]; rfl, rfl⟩
  · subst h
    have HV := Lib.hid (intC_eq a)
    go_enter Tryz.func44, Tryz.ntmps44
    go_wp2
    go_ret
    exact ⟨by rw [HV.out]; rfl, rfl⟩
  · have HV := Lib.hid (intC_gt h)
    have d1 : decide (a < b) = false := by simp; omega
    have d2 : decide (b < a) = true := by simp [h]
    go_enter Tryz.func44, Tryz.ntmps44
    go_wp2
    go_ret
    exact ⟨by rw [HV.out]; rfl, rfl⟩
theorem cmpI64_any (a b : Int) (w : World) : Calls Tryz.prog 45 #[.int .i64 a, .int .i64 b] w fun e w' => e = .returned (.int .i64 (intC a b)) ∧ w' = w := by
  rcases Int.lt_trichotomy a b with h | h | h
  · have HV := Lib.hid (intC_lt h)
    have d1 : decide (a < b) = true := by simp [h]
    go_enter Tryz.func45, Tryz.ntmps45
    go_wp2
    go_ret
    exact ⟨by rw [HV.out]; rfl, rfl⟩
  · subst h
    have HV := Lib.hid (intC_eq a)
    go_enter Tryz.func45, Tryz.ntmps45
    go_wp2
    go_ret
    exact ⟨by rw [HV.out]; rfl, rfl⟩
  · have HV := Lib.hid (intC_gt h)
    have d1 : decide (a < b) = false := by simp; omega
    have d2 : decide (b < a) = true := by simp [h]
    go_enter Tryz.func45, Tryz.ntmps45
    go_wp2
    go_ret
    exact ⟨by rw [HV.out]; rfl, rfl⟩
theorem cmpInt_any (a b : Int) (w : World) : Calls Tryz.prog 42 #[.int .i64 a, .int .i64 b] w fun e w' => e = .returned (.int .i64 (intC a b)) ∧ w' = w := by
  rcases Int.lt_trichotomy a b with h | h | h
  · have HV := Lib.hid (intC_lt h)
    have d1 : decide (a < b) = true := by simp [h]
    go_enter Tryz.func42, Tryz.ntmps42
    go_wp2
    go_ret
    exact ⟨by rw [HV.out]; rfl, rfl⟩
  · subst h
    have HV := Lib.hid (intC_eq a)
    go_enter Tryz.func42, Tryz.ntmps42
    go_wp2
    go_ret
    exact ⟨by rw [HV.out]; rfl, rfl⟩
  · have HV := Lib.hid (intC_gt h)
    have d1 : decide (a < b) = false := by simp; omega
    have d2 : decide (b < a) = true := by simp [h]
    go_enter Tryz.func42, Tryz.ntmps42
    go_wp2
    go_ret
    exact ⟨by rw [HV.out]; rfl, rfl⟩
theorem cmpOr_any (g c : Nat) (x y z : Int) (w : World) (h0 : w.cell? ⟨g, 0, none⟩ = some (.int .i64 x)) (h1 : w.cell? ⟨g, 1, none⟩ = some (.int .i64 y)) (h2 : w.cell? ⟨g, 2, none⟩ = some (.int .i64 z)) :
    Calls Tryz.prog 43 #[.slice (some ⟨g, 0, none⟩) 3 c] w fun e w' => e = .returned (.int .i64 (orC x y z)) ∧ w' = w := by
  go_enter Tryz.func43, Tryz.ntmps43
  go_wp2
  go_loop [8] (fun v8 => ∃ j : Nat, j ≤ 3 ∧ v8 = .int .i64 (j : Int) ∧ (0 < j → x = 0) ∧ (1 < j → y = 0) ∧ (2 < j → z = 0)) (fun v8 => 3 - (intOf v8).toNat)
  case atStart => exact ⟨0, by omega, rfl, fun h => by omega, fun h => by omega, fun h => by omega⟩
  case round =>
    obtain ⟨j, hj, rfl, e0, e1, e2⟩ := hrel
    match j, hj with
    | 0, _ =>
      by_cases hx : x = 0
      · subst hx
        go_wp2
        go_round
        case rel => exact ⟨1, by omega, by go_num, by simp, by simp, by simp⟩
        case measure => simp [intOf]
      · have d1 : (x != 0) = true := by simp [hx]
        have HV : Hid (orC x y z = x) := Lib.hid (by unfold orC; rw [if_pos hx])
        clear hx e0 e1 e2
        go_wp2
        go_ret
        exact ⟨by rw [HV.out]; rfl, rfl⟩
    | 1, _ =>
      obtain rfl := e0 (by omega)
      by_cases hy : y = 0
      · subst hy
        go_wp2
        go_round
        case rel => exact ⟨2, by omega, by go_num, by simp, by simp, by simp⟩
        case measure => simp [intOf]
      · have d1 : (y != 0) = true := by simp [hy]
        have HV : Hid (orC 0 y z = y) := Lib.hid (by unfold orC; rw [if_neg (by simp), if_pos hy])
        clear hy e0 e1 e2
        go_wp2
        go_ret
        exact ⟨by rw [HV.out]; rfl, rfl⟩
    | 2, _ =>
      obtain rfl := e0 (by omega)
      obtain rfl := e1 (by omega)
      by_cases hz : z = 0
      · subst hz
        go_wp2
        go_round
        case rel => exact ⟨3, by omega, by go_num, by simp, by simp, by simp⟩
        case measure => simp [intOf]
      · have d1 : (z != 0) = true := by simp [hz]
        have HV : Hid (orC 0 0 z = z) := Lib.hid (by unfold orC; rw [if_neg (by simp), if_neg (by simp)])
        clear hz e0 e1 e2
        go_wp2
        go_ret
        exact ⟨by rw [HV.out]; rfl, rfl⟩
    | 3, _ =>
      obtain rfl := e0 (by omega)
      obtain rfl := e1 (by omega)
      obtain rfl := e2 (by omega)
      have HV : Hid (orC 0 0 0 = 0) := Lib.hid rfl
      clear e0 e1 e2
      go_wp2
      go_ret
      exact ⟨by rw [HV.out]; rfl, rfl⟩
theorem six_box {w : World} {e e2 : TypeId} {i j : Nat} {ak an bk bn : Int} {as' bs : ByteArray} (h1 : Box w i e #[.int .u8 ak, .int .i64 an, .string as']) (h2 : Box w j e2 #[.int .u8 bk, .int .i64 bn, .string bs]) :
    w.cell? ⟨i, 0, none⟩ = some (.int .u8 ak) ∧ w.cell? ⟨i, 1, none⟩ = some (.int .i64 an) ∧ w.cell? ⟨i, 2, none⟩ = some (.string as') ∧ w.cell? ⟨j, 0, none⟩ = some (.int .u8 bk) ∧ w.cell? ⟨j, 1, none⟩ = some (.int .i64 bn) ∧ w.cell? ⟨j, 2, none⟩ = some (.string bs) :=
  ⟨(cells3 h1).1, (cells3 h1).2.1, (cells3 h1).2.2, (cells3 h2).1, (cells3 h2).2.1, (cells3 h2).2.2⟩
theorem or_fresh (w : World) (x y z : Int) (t : TypeId) : Calls Tryz.prog 43 #[.slice (some ⟨w.heap.size, 0, none⟩) 3 3] (w.alloc (.cells #[.int .i64 x, .int .i64 y, .int .i64 z] t)).drew fun e w' => e = .returned (.int .i64 (orC x y z)) ∧ w' = (w.alloc (.cells #[.int .i64 x, .int .i64 y, .int .i64 z] t)).drew :=
  cmpOr_any _ _ x y z (w.alloc (.cells #[.int .i64 x, .int .i64 y, .int .i64 z] t)).drew (show (w.alloc (.cells #[.int .i64 x, .int .i64 y, .int .i64 z] t)).cell? _ = _ by rw [cell_of_row _ _ _ _ _ _ (heap_alloc_new w _)]; rfl) (show (w.alloc (.cells #[.int .i64 x, .int .i64 y, .int .i64 z] t)).cell? _ = _ by rw [cell_of_row _ _ _ _ _ _ (heap_alloc_new w _)]; rfl) (show (w.alloc (.cells #[.int .i64 x, .int .i64 y, .int .i64 z] t)).cell? _ = _ by rw [cell_of_row _ _ _ _ _ _ (heap_alloc_new w _)]; rfl)
set_option maxRecDepth 100000 in
set_option maxHeartbeats 4000000 in
theorem byFields_any (ak an bk bn : Int) (as' bs : ByteArray) (w : World) : Calls Tryz.prog 34 #[.agg #[.int .u8 ak, .int .i64 an, .string as'], .agg #[.int .u8 bk, .int .i64 bn, .string bs]] w (ToldG (.int .i64 (simC ⟨ak, an, as'⟩ ⟨bk, bn, bs⟩)) w) := by
  have HV := Lib.hid (simC_fields ⟨ak, an, as'⟩ ⟨bk, bn, bs⟩)
  dsimp only at HV
  obtain ⟨W, hW⟩ : ∃ W, W = (w.alloc (.cells #[.int .u8 ak, .int .i64 an, .string as'] 27)).alloc (.cells #[.int .u8 bk, .int .i64 bn, .string bs] 27) := ⟨_, rfl⟩
  have HG0 := Lib.hid (show w.grownBy W none by rw [hW]; exact grown_alloc (World.grownBy_alloc w _ none) _)
  have HBA := Lib.hid (show Box W w.heap.size 27 #[.int .u8 ak, .int .i64 an, .string as'] by rw [hW]; exact (Box.fresh w _ _).alloc _)
  have HBB := Lib.hid (show Box W (w.heap.size + 1) 27 #[.int .u8 bk, .int .i64 bn, .string bs] by
    have h1 := Box.fresh (w.alloc (.cells #[.int .u8 ak, .int .i64 an, .string as'] 27)) 27 #[.int .u8 bk, .int .i64 bn, .string bs]
    rw [hW]
    simpa using h1)
  have HW := Lib.hid hW
  clear hW
  go_enter Tryz.func34, Tryz.ntmps34
  go_upto_region 1 with fail
  rw [← HW.out]
  have SIX := Lib.hid (six_box HBA.out HBB.out)
  obtain ⟨a0, a1, a2, b0, b1, b2⟩ := six_box HBA.out HBB.out
  have HCS := Lib.hid (fun w' => libCompareS_any as' bs w')
  generalize Lib.compareBytes as'.data.toList bs.data.toList = cs at *
  go_region_held3 (fun w' => w'.cell? ⟨w.heap.size, 0, none⟩ = some (.int .u8 ak) ∧ w'.cell? ⟨w.heap.size, 1, none⟩ = some (.int .i64 an) ∧ w'.cell? ⟨w.heap.size, 2, none⟩ = some (.string as') ∧ w'.cell? ⟨w.heap.size + 1, 0, none⟩ = some (.int .u8 bk) ∧ w'.cell? ⟨w.heap.size + 1, 1, none⟩ = some (.int .i64 bn) ∧ w'.cell? ⟨w.heap.size + 1, 2, none⟩ = some (.string bs)) (first | exact SIX.out | go_keep) (first
    | (go_at_call 44; refine (cmpU8_any _ _ _).mono ?_; rintro e w2 ⟨rfl, rfl⟩)
    | (go_at_call 45; refine (cmpI64_any _ _ _).mono ?_; rintro e w2 ⟨rfl, rfl⟩)
    | (go_at_call 46; refine (HCS.out _).mono ?_; rintro e w2 ⟨rfl, rfl⟩)
    | (go_at_call 43; refine (or_fresh _ _ _ _ _).mono ?_; rintro e w2 ⟨rfl, rfl⟩))
  all_goals go_wp2
  all_goals go_ret
  all_goals exact toldG_eq (by rw [← HV.out]; rfl) (grown_drew (grown_alloc HG0.out _))
end Go.Proofs.YtblmnbaejfhagaaGreatDoor
