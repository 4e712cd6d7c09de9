/-
  Layer 5: the program's Right, Parts, All.
-/
import Derived.Test.YtfemfkiamipipaaRight5
namespace Go.Proofs.Ytfemfkiamipipaa
open Go.ChangeShapes Go.WideShapes Go.ChangeAt Go.RowKit
set_option linter.unusedVariables false

theorem noS_facts : noS.toList = [] ∧ noS.toList.isEmpty = true ∧ noS.size = 0 := ⟨noS_list, by rw [noS_list]; rfl, rfl⟩
set_option maxRecDepth 100000 in
set_option maxHeartbeats 2000000 in
theorem ownRight_any (k n : Int) (s : ByteArray) (w : World) (hs : s.size ≤ 1048576) (h1 : -9223372036854775808 ≤ n) (h2 : n < 9223372036854775808) : Calls Try.prog 28 #[.agg #[.int .u8 k, .int .i64 n, .string s]] w (ToldG (.bool (rightE ⟨k, n, s⟩)) w) := by
  have HG := Lib.hid (World.grownBy_alloc w (.cells #[.int .u8 k, .int .i64 n, .string s] 38) none)
  by_cases hk0 : k = 0
  · subst hk0
    have HR := Lib.hid (right_zero n s)
    by_cases he : s = noS
    · subst he
      obtain ⟨d1, d2, d3⟩ := noS_facts
      rw [decide_eq_true rfl] at HR
      go_enter Try.func28, Try.ntmps28
      go_wp2_with fail
      go_ret
      exact toldG_eq (by rw [HR.out]; rfl) HG.out
    · obtain ⟨d1, d2⟩ := empty_no he
      rw [decide_eq_false he] at HR
      clear he
      go_enter Try.func28, Try.ntmps28
      go_wp2_with fail
      go_ret
      exact toldG_eq (by rw [HR.out]; rfl) HG.out
  · have d0 : (k == 0) = false := by simp [hk0]
    by_cases hk1 : k = 1
    · subst hk1
      have HR := Lib.hid (right_one n s)
      by_cases hn : n = 0
      · subst hn
        by_cases hl : s.size ≤ 32
        · have d3 : decide ((s.size : Int) ≤ 32) = true := by simp; omega
          rw [decide_eq_true rfl, decide_eq_true hl] at HR
          go_enter Try.func28, Try.ntmps28
          go_wp2_with fail
          go_ret
          exact toldG_eq (by rw [HR.out]; rfl) HG.out
        · have d3 : decide ((s.size : Int) ≤ 32) = false := by simp; omega
          rw [decide_eq_true rfl, decide_eq_false hl] at HR
          go_enter Try.func28, Try.ntmps28
          go_wp2_with fail
          go_ret
          exact toldG_eq (by rw [HR.out]; rfl) HG.out
      · have d3 : (n == 0) = false := by simp [hn]
        rw [decide_eq_false hn] at HR
        clear hn
        go_enter Try.func28, Try.ntmps28
        go_wp2_with fail
        go_ret
        exact toldG_eq (by rw [HR.out]; rfl) HG.out
    · have d1 : (k == 1) = false := by simp [hk1]
      by_cases hk2 : k = 2
      · subst hk2
        have HR := Lib.hid (right_two n s)
        by_cases hn1 : 1 ≤ n
        · have d2 : decide ((1 : Int) ≤ n) = true := by simp [hn1]
          by_cases hn4 : n ≤ 4
          · have d3 : decide (n ≤ (4 : Int)) = true := by simp [hn4]
            obtain ⟨m, rfl⟩ : ∃ m : Nat, n = m := ⟨n.toNat, by omega⟩
            rw [d2, d3, Int.toNat_natCast] at HR
            have HP := Lib.hid (fun w' => ownPacked_any s m w' hs (by omega))
            generalize packedE m s.data.toList = b at *
            clear hk0 hk1
            go_enter Try.func28, Try.ntmps28
            go_wp2_with fail
            refine (HP.out _).mono ?_
            rintro e w2 ⟨rfl, hg⟩
            have HG2 := Lib.hid (grown_join HG.out hg (.inr (by simp)))
            clear hg
            go_wp2_with fail
            go_ret
            exact toldG_eq (by rw [HR.out]; rfl) HG2.out
          · have d3 : decide (n ≤ (4 : Int)) = false := by simp; omega
            rw [d2, d3] at HR
            clear hk0 hk1
            go_enter Try.func28, Try.ntmps28
            go_wp2_with fail
            go_ret
            exact toldG_eq (by rw [HR.out]; rfl) HG.out
        · have d2 : decide ((1 : Int) ≤ n) = false := by simp; omega
          rw [d2] at HR
          clear hk0 hk1
          go_enter Try.func28, Try.ntmps28
          go_wp2_with fail
          go_ret
          exact toldG_eq (by rw [HR.out]; rfl) HG.out
      · have d2 : (k == 2) = false := by simp [hk2]
        have HR := Lib.hid (right_more (n := n) (s := s) hk0 hk1 hk2)
        clear hk0 hk1 hk2
        go_enter Try.func28, Try.ntmps28
        go_wp2_with fail
        go_ret
        exact toldG_eq (by rw [HR.out]; rfl) HG.out
theorem make_labs (m : Nat) (hm : m ≤ 4) : ∃ Z : Array Value, Z.size = m * 3 ∧ ∀ W : World, (Instr.makeSlice 29 (.int .i64 0) (.int .i64 (m : Int))).run Try.prog W = .ok (.slice (some ⟨W.heap.size, 0, none⟩) 0 m) (W.alloc (.cells Z 38)) := by
  obtain ⟨i0, hi, hz0, hz1, hz2⟩ := info_parts info_lab
  refine ⟨madeCells (Value.agg #[.int .u8 0, .int .i64 0, .string noS]).cells (m * i0.size), by rw [hz1]; simp [madeCells], fun W => ?_⟩
  have h := run_make (P := Try.prog) W 29 38 i0 _ Try.underlying29 hi hz0 .i64 .i64 0 (m : Int) (by omega) (by omega) (by rw [hz2]; omega) (by omega)
  simpa using h
theorem made_empty {w : World} {e : TypeId} {m : Nat} {Z : Array Value} (hm : m ≤ 4) (hZ : Z.size = m * 3) : (w.alloc (.cells Z e)).ownsRow w.heap.size e 3 (.slice (some ⟨w.heap.size, 0, none⟩) 0 m) 0 (labV []) :=
  ⟨rfl, .inr ⟨w.heap.size, m, Z, rfl, Nat.le_refl _, heap_alloc_new w _, Nat.zero_le _, by unfold maxLen; omega, hZ, by simp [labV]⟩⟩
theorem intSays : IntSays := fun n w _ _ => (ownInt_any n w).mono fun e w' ⟨h1, h2⟩ => ⟨h1, by rw [h2]; exact World.grownBy_alloc w _ none⟩
theorem textSays : TextSays := fun s w _ => (ownText_any s w).mono fun e w' ⟨h1, h2⟩ => ⟨h1, by rw [h2]; exact World.grownBy_alloc w _ none⟩
theorem rightSays : RightSays := fun a w h => ownRight_any a.k a.n a.s w h.2.2.2.2 h.2.2.1 h.2.2.2.1
end Go.Proofs.Ytfemfkiamipipaa
