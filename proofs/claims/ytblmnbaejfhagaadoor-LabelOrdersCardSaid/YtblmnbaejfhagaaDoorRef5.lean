/-
  Layer 5: the reference's simple.
-/
import Derived.Test.YtblmnbaejfhagaaDoorLabM
namespace Go.Proofs.YtblmnbaejfhagaaDoor
open Go.ChangeShapes Go.WideShapes Go.ChangeAt Go.RowKit
set_option linter.unusedVariables false

def ToldG (v : Value) (w : World) (e : Ending) (w' : World) : Prop := e = .returned v ∧ w.grownBy w' none
theorem toldG_eq {v v' : Value} {w w' : World} (h : v' = v) (hg : w.grownBy w' none) : ToldG v w (.returned v') w' := ⟨by rw [h], hg⟩
theorem simC_less {a b : Lab} (h : ahead a b = true) : simC a b = -1 := by unfold simC; rw [if_pos h]
theorem simC_same (a : Lab) : simC a a = 0 := by unfold simC; rw [if_neg (by rw [ahead_irrefl]; exact Bool.false_ne_true), if_pos rfl]
theorem simC_more {a b : Lab} (h : ahead a b = false) (hne : a ≠ b) : simC a b = 1 := by unfold simC; rw [if_neg (by rw [h]; exact Bool.false_ne_true), if_neg hne]
set_option maxHeartbeats 1000000 in
theorem ref5simple_any (a b : Lab) (w : World) : Calls Tryd.prog 19 #[labO a, labO b] w (ToldG (.int .i64 (simC a b)) w) := by
  have he := eql_rlab a b
  have HAI := Lib.hid (ahead_iff a b)
  obtain ⟨ak, an, as'⟩ := a
  obtain ⟨bk, bn, bs⟩ := b
  unfold labO
  dsimp only at he HAI ⊢
  by_cases hk : ak = bk
  · subst hk
    have d1 : (ak != ak) = false := by simp
    have d2 : (ak == ak) = true := by simp
    by_cases hn : an < bn
    · have d3 : decide (an < bn) = true := by simp [hn]
      have HS := Lib.hid (simC_less (HAI.out.2 (.inr ⟨rfl, .inl hn⟩)))
      clear hn
      go_enter Tryd.func19, Tryd.ntmps19
      go_wp2
      go_ret
      exact toldG_eq (by rw [HS.out]; rfl) (grown_alloc (grown_alloc (grown_refl _ _) _) _)
    · have d3 : decide (an < bn) = false := by simp; omega
      by_cases hn2 : an = bn
      · subst hn2
        have d4 : (an == an) = true := by simp
        cases hl : Op.bytesLess as'.toList bs.toList
        · have HA : Hid (ahead ⟨ak, an, as'⟩ ⟨ak, an, bs⟩ = false) := Lib.hid (by
            cases h : ahead ⟨ak, an, as'⟩ ⟨ak, an, bs⟩
            · rfl
            · rcases HAI.out.1 h with h1 | ⟨_, h1 | ⟨_, h1⟩⟩
              · omega
              · omega
              · rw [hl] at h1; cases h1)
          by_cases hs : as' = bs
          · subst hs
            have d5 : eqlL ⟨ak, an, as'⟩ ⟨ak, an, as'⟩ = true := decide_eq_true rfl
            have HS := Lib.hid (simC_same ⟨ak, an, as'⟩)
            go_enter Tryd.func19, Tryd.ntmps19
            go_wp2
            go_ret
            exact toldG_eq (by rw [HS.out]; rfl) (grown_alloc (grown_alloc (grown_refl _ _) _) _)
          · have d5 : eqlL ⟨ak, an, as'⟩ ⟨ak, an, bs⟩ = false := decide_eq_false (fun h => hs (by injection h))
            have HS := Lib.hid (simC_more HA.out (fun h => hs (by injection h)))
            clear hs
            go_enter Tryd.func19, Tryd.ntmps19
            go_wp2
            go_ret
            exact toldG_eq (by rw [HS.out]; rfl) (grown_alloc (grown_alloc (grown_refl _ _) _) _)
        · have HS := Lib.hid (simC_less (HAI.out.2 (.inr ⟨rfl, .inr ⟨rfl, hl⟩⟩)))
          go_enter Tryd.func19, Tryd.ntmps19
          go_wp2
          go_ret
          exact toldG_eq (by rw [HS.out]; rfl) (grown_alloc (grown_alloc (grown_refl _ _) _) _)
      · have d4 : (an == bn) = false := by simp [hn2]
        have hne : (⟨ak, an, as'⟩ : Lab) ≠ ⟨ak, bn, bs⟩ := fun h => hn2 (by injection h)
        have d5 : eqlL ⟨ak, an, as'⟩ ⟨ak, bn, bs⟩ = false := decide_eq_false hne
        have HS := Lib.hid (simC_more (a := ⟨ak, an, as'⟩) (b := ⟨ak, bn, bs⟩) (by
          cases h : ahead ⟨ak, an, as'⟩ ⟨ak, bn, bs⟩
          · rfl
          · rcases HAI.out.1 h with h1 | ⟨_, h1 | ⟨h1, _⟩⟩ <;> omega) hne)
        clear hn2 hn hne
        go_enter Tryd.func19, Tryd.ntmps19
        go_wp2
        go_ret
        exact toldG_eq (by rw [HS.out]; rfl) (grown_alloc (grown_alloc (grown_refl _ _) _) _)
  · have d1 : (ak != bk) = true := by simp [hk]
    have d2 : (ak == bk) = false := by simp [hk]
    have hne : (⟨ak, an, as'⟩ : Lab) ≠ ⟨bk, bn, bs⟩ := fun h => hk (by injection h)
    have d5 : eqlL ⟨ak, an, as'⟩ ⟨bk, bn, bs⟩ = false := decide_eq_false hne
    by_cases hlt : ak < bk
    · have d3 : decide (ak < bk) = true := by simp [hlt]
      have HS := Lib.hid (simC_less (HAI.out.2 (.inl hlt)))
      clear hlt hk hne
      go_enter Tryd.func19, Tryd.ntmps19
      go_wp2
      go_ret
      exact toldG_eq (by rw [HS.out]; rfl) (grown_alloc (grown_alloc (grown_refl _ _) _) _)
    · have d3 : decide (ak < bk) = false := by simp; omega
      have HS := Lib.hid (simC_more (a := ⟨ak, an, as'⟩) (b := ⟨bk, bn, bs⟩) (by
        cases h : ahead ⟨ak, an, as'⟩ ⟨bk, bn, bs⟩
        · rfl
        · rcases HAI.out.1 h with h1 | ⟨h1, _⟩ <;> omega) hne)
      clear hlt hk hne
      go_enter Tryd.func19, Tryd.ntmps19
      go_wp2
      go_ret
      exact toldG_eq (by rw [HS.out]; rfl) (grown_alloc (grown_alloc (grown_refl _ _) _) _)
end Go.Proofs.YtblmnbaejfhagaaDoor
