/-
  Layer 4: the reference's Ranks.
-/
import Derived.Test.YtffobpbpdnamnaaRef4c
namespace Go.Proofs.Ytffobpbpdnamnaa
open Go.ChangeShapes Go.WideShapes Go.ChangeAt Go.RowKit
set_option linter.unusedVariables false

/-! ### Ranks -/
/-- none of the first z is what stands at k. -/
def frst (l : List Int) (k : Nat) : Nat → Bool
  | 0 => true
  | z + 1 => frst l k z && (l.getD z 0 != l.getD k 0)
/-- how many of the first k are less than v, each counted where it comes first. -/
def rk (l : List Int) (v : Int) : Nat → Nat
  | 0 => 0
  | k + 1 => rk l v k + (if (frst l k k && decide (l.getD k 0 < v)) = true then 1 else 0)
theorem rk_le (l : List Int) (v : Int) (k : Nat) : rk l v k ≤ k := by
  induction k with
  | zero => exact Nat.le_refl _
  | succ k ih =>
    show rk l v k + (if (frst l k k && decide (l.getD k 0 < v)) = true then 1 else 0) ≤ k + 1
    split <;> omega
theorem rk_up {l : List Int} {v : Int} {k : Nat} (h : frst l k k = true) (h2 : l.getD k 0 < v) : rk l v (k + 1) = rk l v k + 1 := by
  show rk l v k + (if (frst l k k && decide (l.getD k 0 < v)) = true then 1 else 0) = _
  rw [h, decide_eq_true h2]; rfl
theorem rk_stay {l : List Int} {v : Int} {k : Nat} (h : frst l k k = false ∨ ¬ l.getD k 0 < v) : rk l v (k + 1) = rk l v k := by
  show rk l v k + (if (frst l k k && decide (l.getD k 0 < v)) = true then 1 else 0) = _
  rcases h with h | h
  · rw [h]; rfl
  · rw [decide_eq_false h, Bool.and_false]; rfl
theorem tabI_snoc (n : Nat) (f : Nat → Int) : tabI (n + 1) f = tabI n f ++ [f n] := by simp [tabI, List.range_succ]
def ranksE (l : List Int) : List Int := tabI l.length fun i => (rk l (l.getD i 0) l.length : Int)
set_option maxHeartbeats 2000000 in
theorem ref4Ranks_any (A : Option Addr) (n c : Nat) (l : List Int) (w : World) (h : Nums w w.heap.size A n l) (hn : n ≤ 1048576) :
    Calls Try.prog 16 #[.slice A n c] w (GaveInts (ranksE l) w) := by
  have H := Lib.hid h
  have HL := Lib.hid h.1
  obtain ⟨i0, hi, hz0, hz1, hz2⟩ := info_parts info_int
  clear h
  go_enter Try.func16, Try.ntmps16
  go_wp2
  go_loopw [3, 4] (fun v i wr => ∃ x : Nat, x ≤ n ∧ i = .int .i64 x ∧ wr.ownsRow w.heap.size 3 1 v x (intV (tabI x fun i => (rk l (l.getD i 0) n : Int))) ∧ w.grownBy wr none) (fun _ i _ => n - (intOf i).toNat)
  case atStart => exact ⟨0, by omega, rfl, World.ownsRow_nil _ _ _ _, grown_refl _ _⟩
  case round =>
    obtain ⟨x, hx, rfl, ho, hg⟩ := hrel
    obtain ⟨w1, hw1⟩ : ∃ w1, w1 = wr := ⟨_, rfl⟩
    subst hw1
    have HO := Lib.hid ho
    have HG := Lib.hid hg
    have hsz := hg.size
    clear ho
    by_cases hlt : x < n
    · obtain ⟨b, off, rfl, _, hc⟩ := (H.out.grow hg).2 (by omega)
      have HC := Lib.hid hc
      have g0 : w1.cell? ⟨b, off + x, none⟩ = some (.int .i64 (l.getD x 0)) := hc x hlt
      have HS := Lib.hid (tabI_snoc x fun i => (rk l (l.getD i 0) n : Int))
      generalize hv : l.getD x 0 = v at *
      have HV := Lib.hid hv
      clear hg hc hv
      have e0 : decide ((x : Int) < (n : Int)) = true := by simp; omega
      go_wp2
      go_loopw [5, 6] (fun t k wk => ∃ y m : Nat, y ≤ n ∧ t = .int .i64 (rk l v y : Int) ∧ k = .int .i64 y ∧ wk = w1.drewN m) (fun _ k _ => n - (intOf k).toNat)
      case atStart => exact ⟨0, 0, by omega, rfl, rfl, rfl⟩
      case round =>
        obtain ⟨y, m, hy, rfl, rfl, hwk⟩ := hrel
        by_cases hly : y < n
        · have HUP := Lib.hid (rk_up (l := l) (v := v) (k := y))
          have HST := Lib.hid (rk_stay (l := l) (v := v) (k := y))
          have HRK := rk_le l v y
          have HW := Lib.hid hwk
          clear hwk
          go_wp2
          go_loopw [7, 8] (fun f j wj => ∃ z m2 : Nat, z ≤ y ∧ f = .bool (frst l y z) ∧ j = .int .i64 z ∧ wj = w1.drewN m2) (fun _ j _ => y - (intOf j).toNat)
          case atStart => exact ⟨0, m, by omega, rfl, rfl, HW.out⟩
          case round =>
            obtain ⟨z, m2, hz, rfl, rfl, hwj⟩ := hrel
            have g1 : (w1.drewN m2).cell? _ = _ := HC.out y hly
            have g2 : (w1.drewN m2).cell? _ = _ := g0
            rw [← hwj] at g1 g2
            by_cases hzy : z < y
            · have g3 : (w1.drewN m2).cell? _ = _ := HC.out z (by omega)
              rw [← hwj] at g3
              have HWJ := Lib.hid hwj
              clear hwj g2 g0
              have hd : decide ((z : Int) < (y : Int)) = true := by simp; omega
              have HFR := Lib.hid (show frst l y (z + 1) = (frst l y z && (l.getD z 0 != l.getD y 0)) from rfl)
              generalize l.getD z 0 = p at *
              generalize l.getD y 0 = q at *
              generalize frst l y z = f at *
              cases f
              · go_wp2
                go_quiet (fail)
                go_wp2
                go_roundw
                case rel => exact ⟨z + 1, _, by omega, by rw [HFR.out]; rfl, by go_num, by rw [HWJ.out, World.drewN_drewN]⟩
                case measure => simp [intOf]; omega
              · by_cases e : p = q
                · subst e
                  have hb : (p != p) = false := by simp
                  go_wp2
                  go_quiet (fail)
                  go_wp2
                  go_roundw
                  case rel => exact ⟨z + 1, _, by omega, by rw [HFR.out, hb]; rfl, by go_num, by rw [HWJ.out, World.drewN_drewN]⟩
                  case measure => simp [intOf]; omega
                · have hb : (p != q) = true := by simp [e]
                  have HB := Lib.hid hb
                  clear e
                  go_wp2
                  go_quiet (fail)
                  go_wp2
                  go_roundw
                  case rel => exact ⟨z + 1, _, by omega, by rw [HFR.out, HB.out]; rfl, by go_num, by rw [HWJ.out, World.drewN_drewN]⟩
                  case measure => simp [intOf]; omega
            · obtain rfl : z = y := by omega
              have HWJ := Lib.hid hwj
              clear hwj g0
              generalize l.getD z 0 = q at *
              generalize frst l z z = f at *
              cases f
              · have HT := Lib.hid (HST.out (.inl rfl))
                generalize rk l v z = t at *
                go_wp2
                go_quiet (fail)
                go_wp2
                go_roundw
                case rel => exact ⟨z + 1, _, by omega, by rw [HT.out], by go_num, by rw [HWJ.out, World.drewN_drewN]⟩
                case measure => simp [intOf]; omega
              · by_cases e : q < v
                · have HT := Lib.hid (HUP.out rfl e)
                  generalize rk l v z = t at *
                  have hb : decide (q < v) = true := by simp [e]
                  clear e
                  go_wp2
                  go_quiet (fail)
                  go_wp2
                  go_roundw
                  case rel => exact ⟨z + 1, _, by omega, by rw [HT.out]; go_num, by go_num, by rw [HWJ.out, World.drewN_drewN]⟩
                  case measure => simp [intOf]; omega
                · have HT := Lib.hid (HST.out (.inr (Int.not_lt.1 e)))
                  generalize rk l v z = t at *
                  have hb : decide (q < v) = false := by simp; omega
                  clear e
                  go_wp2
                  go_quiet (fail)
                  go_wp2
                  go_roundw
                  case rel => exact ⟨z + 1, _, by omega, by rw [HT.out], by go_num, by rw [HWJ.out, World.drewN_drewN]⟩
                  case measure => simp [intOf]; omega
        · obtain rfl : y = n := by omega
          have HW := Lib.hid hwk
          subst hwk
          have hrk := rk_le l v y
          generalize rk l v y = t at *
          clear g0
          go_wp2_with (at_builtin; refine wpList_append_own_at _ rfl (.tmp 52) (.tmp 54) _ rfl w.heap.size 3 i0 _ 1 8 Try.underlying22 hi hz0 hz1 hz2 rfl (by omega) u3 x _ rfl ((HO.out.drewN m).alloc _) ⟨_, 0, none⟩ 1 1 [.int .i64 t] rfl rfl (new_cell1 _ _ _) (by simp [Value.oneCell']) (by simp only [maxLen]; omega) (by omega) (by simp; omega) ?_; intro v7' w4 hown4 hg4 _ hat4; have HO4 := Lib.hid hown4; have HG4 := Lib.hid hg4; clear hown4 hg4 hat4)
          go_roundw
          case rel => exact ⟨x + 1, by omega, by go_num, by rw [HS.out, intV_snoc]; exact HO4.out, grown_join (grown_alloc (grown_drewN HG.out m) _) HG4.out (.inr fun y hy => (HO.out.lt y hy).1)⟩
          case measure => simp [intOf]; omega
    · obtain rfl : x = n := by omega
      clear hg
      go_wp2
      go_ret
      obtain ⟨A2, c2, rfl⟩ := own_slice1 HO.out
      have e : ranksE l = tabI x fun i => (rk l (l.getD i 0) x : Int) := by unfold ranksE; rw [HL.out]
      unfold GaveInts
      rw [e, tabI_length]
      exact ⟨A2, c2, rfl, ⟨tabI_length _ _, HO.out⟩, HG.out⟩
end Go.Proofs.Ytffobpbpdnamnaa
