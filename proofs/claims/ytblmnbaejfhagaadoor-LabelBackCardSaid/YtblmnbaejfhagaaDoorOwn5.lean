/-
  Layer 5: the law package's Own, Ref, Light; the reference's Same, Unique, All.
-/
import Derived.Test.YtblmnbaejfhagaaDoorRef5e
namespace Go.Proofs.YtblmnbaejfhagaaDoor
open Go.ChangeShapes Go.WideShapes Go.ChangeAt Go.RowKit
set_option linter.unusedVariables false

/-! ### Light -/
def LightEnd (l : List Lab) (w : World) (e : Ending) (w' : World) : Prop := ∃ b, e = .returned (.bool b) ∧ (b = true → l.length ≤ 400 ∧ ∀ i, i < l.length → (l.getD i noLab).s.size ≤ 300) ∧ w' = w
set_option maxHeartbeats 1000000 in
theorem light_any (A : Option Addr) (n c : Nat) (l : List Lab) (B : Nat) (w : World) (h : Labs w B A n l) (hn : n ≤ 9223372036854775807) :
    Calls Tryd.prog 5 #[.slice A n c] w (LightEnd l w) := by
  have H := Lib.hid h
  have HN := Lib.hid h.1
  clear h
  go_enter Tryd.func5, Tryd.ntmps5
  go_wp2
  go_loop [3] (fun i => ∃ x : Nat, x ≤ n ∧ x ≤ 500 ∧ i = .int .i64 (x : Int) ∧ ∀ j, j < x → (l.getD j noLab).s.size ≤ 300) (fun i => 500 - (intOf i).toNat)
  case atStart => exact ⟨0, by omega, by omega, rfl, fun j hj => by omega⟩
  case round =>
    obtain ⟨x, hx, hx5, rfl, hq⟩ := hrel
    have HQ := Lib.hid hq
    clear hq
    by_cases hlt : x < n
    · have d1 : decide ((x : Int) < (n : Int)) = true := by simp; omega
      by_cases h5 : x < 500
      · have d2 : decide ((x : Int) < 500) = true := by simp; omega
        obtain ⟨b, off, rfl, hb, hc0, hc1, hc2⟩ := H.out.at_ hlt
        have HSZ := Lib.hid (show (l.getD x noLab).s.size = (l.getD x noLab).s.size from rfl)
        generalize hy : l.getD x noLab = y at *
        have HY := Lib.hid hy
        obtain ⟨yk, yn, ys⟩ := y
        dsimp only at hc2
        clear hy hc0 hc1
        by_cases h3 : ys.size ≤ 300
        · have d3 : decide ((300 : Int) < (ys.size : Int)) = false := by simp; omega
          go_wp2
          go_round
          case rel => exact ⟨x + 1, by omega, by omega, by go_num, fun j hj => by
            by_cases e : j = x
            · subst e; rw [HY.out]; exact h3
            · exact HQ.out j (by omega)⟩
          case measure => simp [intOf]; omega
        · have d3 : decide ((300 : Int) < (ys.size : Int)) = true := by simp; omega
          go_wp2
          go_ret
          exact ⟨false, rfl, (fun h => by cases h), rfl⟩
      · have d2 : decide ((x : Int) < 500) = false := by simp; omega
        have d4 : decide ((n : Int) ≤ 400) = false := by simp; omega
        go_wp2
        go_ret
        exact ⟨false, rfl, (fun h => by cases h), rfl⟩
    · obtain rfl : n = x := by omega
      have d1 : decide ((n : Int) < (n : Int)) = false := by simp
      by_cases h4 : n ≤ 400
      · have d4 : decide ((n : Int) ≤ 400) = true := by simp; omega
        go_wp2
        go_ret
        exact ⟨true, rfl, fun _ => ⟨by rw [HN.out]; exact h4, fun i hi => HQ.out i (by rw [HN.out] at hi; exact hi)⟩, rfl⟩
      · have d4 : decide ((n : Int) ≤ 400) = false := by simp; omega
        go_wp2
        go_ret
        exact ⟨false, rfl, (fun h => by cases h), rfl⟩

/-! ### Same, Unique, All -/
def ToldD (v : Value) (w : World) (e : Ending) (w' : World) : Prop := e = .returned v ∧ ∃ m, w' = w.drewN m
theorem toldD_eq {v v' : Value} (h : v' = v) (w : World) (m : Nat) : ToldD v w (.returned v') (w.drewN m) := ⟨by rw [h], m, rfl⟩
theorem labs_eq {l l' : List Lab} (hl : l.length = l'.length) (h : ∀ i, i < l.length → l.getD i noLab = l'.getD i noLab) : l = l' := by
  apply List.ext_getElem hl
  intro i h1 h2
  have := h i h1
  simpa [List.getD, h1, h2] using this
end Go.Proofs.YtblmnbaejfhagaaDoor
