/-
  Layer 5: the reference's Unique, All.
-/
import Derived.Test.YtblmnbaejfhagaaGreatDoorOwn5
namespace Go.Proofs.YtblmnbaejfhagaaGreatDoor
open Go.ChangeShapes Go.WideShapes Go.ChangeAt Go.RowKit
set_option linter.unusedVariables false

def UniqP (l : List Lab) : Prop := ∀ i, i < l.length → ∀ k, k < i → l.getD i noLab ≠ l.getD k noLab
def AllP (l : List Lab) (kind : Int) : Prop := ∀ i, i < l.length → (l.getD i noLab).k = kind ∧ rightE (l.getD i noLab) = true
/-- a truth is told that says whether P; only drawn. -/
def SaysD (P : Prop) (w : World) (e : Ending) (w' : World) : Prop := ∃ b, e = .returned (.bool b) ∧ (b = true ↔ P) ∧ ∃ m, w' = w.drewN m
/-- .. memory may have been made. -/
def SaysG (P : Prop) (w : World) (e : Ending) (w' : World) : Prop := ∃ b, e = .returned (.bool b) ∧ (b = true ↔ P) ∧ w.grownBy w' none
theorem says_yes {P : Prop} (h : P) : (true = true ↔ P) := ⟨fun _ => h, fun _ => rfl⟩
theorem says_no {P : Prop} (h : ¬ P) : (false = true ↔ P) := ⟨(fun h => by cases h), fun h2 => absurd h2 h⟩
set_option maxHeartbeats 2000000 in
theorem ref5Unique_any (A : Option Addr) (n c : Nat) (l : List Lab) (B : Nat) (w : World) (h : Labs w B A n l) (hn : n ≤ 1048576) :
    Calls Tryz.prog 16 #[.slice A n c] w (SaysD (UniqP l) w) := by
  have H := Lib.hid h
  have HL := Lib.hid h.1
  clear h
  go_enter Tryz.func16, Tryz.ntmps16
  go_wp2
  go_loopw [3, 4] (fun i _ wr => ∃ x m : Nat, x ≤ n ∧ i = .int .i64 x ∧ (∀ j, j < x → ∀ k, k < j → l.getD j noLab ≠ l.getD k noLab) ∧ wr = w.drewN m) (fun i _ _ => n - (intOf i).toNat)
  case atStart => exact ⟨0, 0, by omega, rfl, fun i hi => by omega, rfl⟩
  case round =>
    obtain ⟨x, m, hx, rfl, hq, hwr⟩ := hrel
    have HQ := Lib.hid hq
    have HW := Lib.hid hwr
    clear hq hwr
    by_cases hlt : x < n
    · go_wp2
      go_loopw [4] (fun k wk => ∃ y m2 : Nat, y ≤ x ∧ k = .int .i64 y ∧ (∀ k, k < y → l.getD x noLab ≠ l.getD k noLab) ∧ wk = w.drewN m2) (fun k _ => x - (intOf k).toNat)
      case atStart => exact ⟨0, m, by omega, rfl, fun i hi => by omega, HW.out⟩
      case round =>
        obtain ⟨y, m2, hy, rfl, hq2, hwk⟩ := hrel
        have HQ2 := Lib.hid hq2
        clear hq2
        by_cases hly : y < x
        · obtain ⟨b, off, rfl, _, hc⟩ := (H.out.drewN m2).2 (by omega)
          obtain ⟨k0, k1, k2⟩ := hc x hlt
          obtain ⟨m0, m1, m2'⟩ := hc y (by omega)
          rw [← hwk] at k0 k1 k2 m0 m1 m2'
          have HWK := Lib.hid hwk
          clear hwk hc
          generalize h1 : l.getD x noLab = u at *
          generalize h2 : l.getD y noLab = v at *
          have H1 := Lib.hid h1
          have H2 := Lib.hid h2
          clear h1 h2
          have hq := eql_rlab u v
          by_cases he : u = v
          · subst he
            obtain ⟨uk, un, us⟩ := u
            have hb : eqlL ⟨uk, un, us⟩ ⟨uk, un, us⟩ = true := decide_eq_true rfl
            rw [hb] at hq
            dsimp only at hq k0 k1 k2 m0 m1 m2'
            go_wp2
            go_quiet (fail)
            go_wp2
            go_ret
            exact ⟨false, rfl, says_no (fun h => h x (by rw [HL.out]; exact hlt) y hly (by rw [H1.out, H2.out])), _, by rw [HWK.out, World.drewN_drewN]⟩
          · have hb : eqlL u v = false := decide_eq_false he
            rw [hb] at hq
            have HE := Lib.hid he
            clear he
            obtain ⟨uk, un, us⟩ := u
            obtain ⟨vk, vn, vs⟩ := v
            dsimp only at hq k0 k1 k2 m0 m1 m2'
            go_wp2
            go_quiet (fail)
            go_wp2
            go_roundw
            case rel => exact ⟨y + 1, _, by omega, by go_num, fun k hk => by
              by_cases e : k = y
              · subst e; rw [H2.out]; exact HE.out
              · exact HQ2.out k (by omega), by rw [HWK.out, World.drewN_drewN]⟩
            case measure => simp [intOf]; omega
        · obtain rfl : x = y := by omega
          have HWK := Lib.hid hwk
          clear hwk
          go_wp2
          go_roundw
          case rel => exact ⟨x + 1, _, by omega, by go_num, fun j hj k hk => by
            by_cases e : j = x
            · subst e; exact HQ2.out k hk
            · exact HQ.out j (by omega) k hk, HWK.out⟩
          case measure => simp [intOf]; omega
    · obtain rfl : n = x := by omega
      go_wp2
      go_ret
      exact ⟨true, rfl, says_yes (fun i hi k hk => HQ.out i (by rw [HL.out] at hi; exact hi) k hk), _, HW.out⟩
set_option maxHeartbeats 2000000 in
theorem ref5All_any (A : Option Addr) (n c : Nat) (l : List Lab) (kind : Int) (w : World) (h : Labs w w.heap.size A n l) (hn : n ≤ 1048576) (hs : ∀ i, i < n → (l.getD i noLab).s.size ≤ 1048576) :
    Calls Tryz.prog 18 #[.slice A n c, .int .u8 kind] w (SaysG (AllP l kind) w) := by
  have H := Lib.hid h
  have HL := Lib.hid h.1
  have HS := Lib.hid hs
  clear h hs
  go_enter Tryz.func18, Tryz.ntmps18
  go_wp2
  go_loopw [5] (fun i wr => ∃ x : Nat, x ≤ n ∧ i = .int .i64 x ∧ (∀ j, j < x → (l.getD j noLab).k = kind ∧ rightE (l.getD j noLab) = true) ∧ w.grownBy wr none) (fun i _ => n - (intOf i).toNat)
  case atStart => exact ⟨0, by omega, rfl, fun i hi => by omega, grown_refl _ _⟩
  case round =>
    obtain ⟨x, hx, rfl, hq, hg⟩ := hrel
    have HQ := Lib.hid hq
    have HG := Lib.hid hg
    clear hq
    by_cases hlt : x < n
    · obtain ⟨b, off, rfl, _, k0, k1, k2⟩ := (H.out.grow hg).at_ hlt
      have HSX := Lib.hid (HS.out x hlt)
      generalize hy : l.getD x noLab = y at *
      have HY := Lib.hid hy
      obtain ⟨yk, yn, ys⟩ := y
      dsimp only at k0 k1 k2 HSX
      clear hy hg
      have HRI := Lib.hid (fun w' => ref5Right_any yk yn ys w' HSX.out)
      by_cases hk : yk = kind
      · subst hk
        have d1 : (yk != yk) = false := by simp
        go_wp2_with fail
        refine (HRI.out _).mono ?_
        rintro e w2 ⟨rfl, hg⟩
        have HG2 := Lib.hid (grown_join HG.out hg (.inr (by simp)))
        clear hg
        cases hr : rightE ⟨yk, yn, ys⟩
        · have HR := Lib.hid hr
          clear hr
          go_wp2_with fail
          go_ret
          exact ⟨false, rfl, says_no (fun h => by
            have h2 := (h x (by rw [HL.out]; exact hlt)).2
            rw [HY.out, HR.out] at h2
            cases h2), HG2.out⟩
        · have HR := Lib.hid hr
          clear hr
          go_wp2_with fail
          go_roundw
          case rel => exact ⟨x + 1, by omega, by go_num, fun j hj => by
            by_cases e : j = x
            · subst e; rw [HY.out]; exact ⟨rfl, HR.out⟩
            · exact HQ.out j (by omega), HG2.out⟩
          case measure => simp [intOf]; omega
      · have d1 : (yk != kind) = true := by simp [hk]
        have HK := Lib.hid hk
        clear hk
        go_wp2
        go_ret
        exact ⟨false, rfl, says_no (fun h => by
          have h2 := (h x (by rw [HL.out]; exact hlt)).1
          rw [HY.out] at h2
          exact HK.out h2), HG.out⟩
    · obtain rfl : n = x := by omega
      go_wp2
      go_ret
      exact ⟨true, rfl, says_yes (fun i hi => HQ.out i (by rw [HL.out] at hi; exact hi)), HG.out⟩
end Go.Proofs.YtblmnbaejfhagaaGreatDoor
