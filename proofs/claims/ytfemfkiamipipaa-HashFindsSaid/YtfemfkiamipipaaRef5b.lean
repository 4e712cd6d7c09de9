/-
  Layer 5: the reference's Parts.
-/
import Derived.Test.YtfemfkiamipipaaTurn5
namespace Go.Proofs.Ytfemfkiamipipaa
open Go.ChangeShapes Go.WideShapes Go.ChangeAt Go.RowKit
set_option linter.unusedVariables false

/-- what Parts answers: nil, or the parts in a new row. -/
def PartsEnd (e : TypeId) (o : Option (List Lab)) (w : World) (en : Ending) (w' : World) : Prop :=
  (o = none ∧ en = .returned (.slice none 0 0) ∧ w.grownBy w' none) ∨
  ∃ (out : List Lab) (A : Addr) (c : Nat), o = some out ∧ en = .returned (.slice (some A) out.length c) ∧ OwnL w' w.heap.size e (some A) out.length c out ∧ w.grownBy w' none
theorem noS_list : noS.toList = [] := by rw [Lib.toList_data]; rfl
theorem noS_of {s : ByteArray} (h : s.toList = []) : s = noS := toList_inj (h.trans noS_list.symm)
theorem empty_no {s : ByteArray} (h : s ≠ noS) : s.toList.isEmpty = false ∧ ¬ s.toList = [] := by
  have h2 : ¬ s.toList = [] := fun e => h (noS_of e)
  refine ⟨?_, h2⟩
  cases he : s.toList with
  | nil => exact absurd he h2
  | cons _ _ => rfl
theorem own_one {w : World} {B : Nat} {e : TypeId} {k n : Int} {s : ByteArray} (hB : B ≤ w.heap.size) : OwnL (w.alloc (.cells #[.int .u8 k, .int .i64 n, .string s] e)) B e (some ⟨w.heap.size, 0, none⟩) 1 1 [⟨k, n, s⟩] :=
  ⟨rfl, World.ownsRow_lit w #[.int .u8 k, .int .i64 n, .string s] _ hB (by unfold maxLen; omega) rfl⟩
theorem parts_none {a : Lab} (h1 : ¬ (a.k = 0 ∧ a.s = noS ∨ a.k = 1 ∧ a.n = 0 ∧ a.s.size ≤ 32)) (h2 : a.k ≠ 2) : partsE a = none := by unfold partsE; rw [if_neg h1, if_pos h2]
theorem parts_self {a : Lab} (h1 : a.k = 0 ∧ a.s = noS ∨ a.k = 1 ∧ a.n = 0 ∧ a.s.size ≤ 32) : partsE a = some [a] := by unfold partsE; rw [if_pos h1]
set_option maxRecDepth 100000 in
set_option maxHeartbeats 2000000 in
theorem ref5Parts_plain (k n : Int) (s : ByteArray) (w : World) (hs : s.size ≤ 1048576) (hk : k ≠ 2) : Calls Try.prog 39 #[.agg #[.int .u8 k, .int .i64 n, .string s]] w (PartsEnd 39 (partsE ⟨k, n, s⟩) w) := by
  by_cases hk0 : k = 0
  · subst hk0
    by_cases he : s = noS
    · subst he
      have HP := Lib.hid (parts_self (a := ⟨0, n, noS⟩) (.inl ⟨rfl, rfl⟩))
      have d1 := noS_list
      go_enter Try.func39, Try.ntmps39
      go_wp2
      go_ret
      exact .inr ⟨_, ⟨w.heap.size + 1, 0, none⟩, 1, HP.out, rfl, by
        have := own_one (w := w.alloc (.cells #[.int .u8 0, .int .i64 n, .string noS] 39)) (B := w.heap.size) (e := 39) (k := 0) (n := n) (s := noS) (by simp)
        simpa using this, grown_alloc (World.grownBy_alloc w _ none) _⟩
    · have HP := Lib.hid (parts_none (a := ⟨0, n, s⟩) (by rintro (⟨_, h⟩ | ⟨h, _⟩); exact he h; exact absurd h (show ¬ (0 : Int) = 1 by decide)) (show ¬ (0 : Int) = 2 by decide))
      obtain ⟨d1, d2⟩ := empty_no he
      clear he
      go_enter Try.func39, Try.ntmps39
      go_wp2
      go_ret
      exact .inl ⟨HP.out, rfl, World.grownBy_alloc w _ none⟩
  · have d0 : (k == 0) = false := by simp [hk0]
    have dk : (k != 2) = true := by simp [hk]
    by_cases hk1 : k = 1
    · subst hk1
      by_cases hn : n = 0
      · subst hn
        by_cases hl : s.size ≤ 32
        · have HP := Lib.hid (parts_self (a := ⟨1, 0, s⟩) (.inr ⟨rfl, rfl, hl⟩))
          have d3 : decide ((s.size : Int) ≤ 32) = true := by simp; omega
          go_enter Try.func39, Try.ntmps39
          go_wp2
          go_ret
          exact .inr ⟨_, ⟨w.heap.size + 1, 0, none⟩, 1, HP.out, rfl, by
            have := own_one (w := w.alloc (.cells #[.int .u8 1, .int .i64 0, .string s] 39)) (B := w.heap.size) (e := 39) (k := 1) (n := 0) (s := s) (by simp)
            simpa using this, grown_alloc (World.grownBy_alloc w _ none) _⟩
        · have HP := Lib.hid (parts_none (a := ⟨1, 0, s⟩) (by rintro (⟨h, _⟩ | ⟨_, _, h⟩); exact absurd h (show ¬ (1 : Int) = 0 by decide); exact hl h) (show ¬ (1 : Int) = 2 by decide))
          have d3 : decide ((s.size : Int) ≤ 32) = false := by simp; omega
          go_enter Try.func39, Try.ntmps39
          go_wp2
          go_ret
          exact .inl ⟨HP.out, rfl, World.grownBy_alloc w _ none⟩
      · have HP := Lib.hid (parts_none (a := ⟨1, n, s⟩) (by rintro (⟨h, _⟩ | ⟨_, h, _⟩); exact absurd h (show ¬ (1 : Int) = 0 by decide); exact hn h) (show ¬ (1 : Int) = 2 by decide))
        have d3 : (n == 0) = false := by simp [hn]
        clear hn
        go_enter Try.func39, Try.ntmps39
        go_wp2
        go_ret
        exact .inl ⟨HP.out, rfl, World.grownBy_alloc w _ none⟩
    · have HP := Lib.hid (parts_none (a := ⟨k, n, s⟩) (by rintro (⟨h, _⟩ | ⟨h, _⟩); exact hk0 h; exact hk1 h) hk)
      have d3 : (k == 1) = false := by simp [hk1]
      clear hk0 hk1 hk
      go_enter Try.func39, Try.ntmps39
      go_wp2
      go_ret
      exact .inl ⟨HP.out, rfl, World.grownBy_alloc w _ none⟩
end Go.Proofs.Ytfemfkiamipipaa
