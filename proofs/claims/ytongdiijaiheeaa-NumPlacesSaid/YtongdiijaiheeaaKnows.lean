/-
  WHAT MUST COME ('knows'), AND THE LAWS OF THE FIRST LAYER OVER NUMBERS: NumDivides, NumPlaces.
-/
import Derived.Test.YtongdiijaiheeaaSlices
import Derived.Test.YtongdiijaiheeaaFrame
import Derived.Laws.Rows
namespace Go.Proofs.Ytongdiijaiheeaa
open Go.ChangeShapes Go.WideShapes Go.ChangeAt Go.RowKit
set_option linter.unusedVariables false

theorem ints_455 (w : World) : Ints (w.alloc (Obj.cells #[Value.int IntKind.i64 4, Value.int IntKind.i64 5, Value.int IntKind.i64 5] 3)) (some ⟨w.heap.size, 0, none⟩) 3 [4, 5, 5] := by
  refine ⟨rfl, fun _ => ⟨w.heap.size, 0, rfl, fun k hk => ?_⟩⟩
  rw [cell_of_row _ _ _ _ _ _ (heap_alloc_new w _)]
  match k, hk with
  | 0, _ => rfl
  | 1, _ => rfl
  | 2, _ => rfl
theorem pr_455 : pr 100 [4, 5, 5] = 100 ∧ prB 100 [4, 5, 5] = true := by decide
theorem dv_72 : dv (-7) 2 = -4 ∧ md (-7) 2 = 1 := by decide +kernel
theorem st_502 : st 5 0 (-2) = 3 ∧ stB 5 0 (-2) = true := by decide
theorem i64_455 : ∀ z ∈ [(4 : Int), 5, 5], I64 z := by
  intro z hz; unfold I64; simp at hz; omega
theorem knows_any (w : World) : Calls Try.prog 7 #[] w fun e w' => e = .returned (.bool true) ∧ Below w.heap.size w w' := by
  have HI := Lib.hid (ints_455 w)
  have H1 := Lib.hid pr_455
  have H2 := Lib.hid dv_72
  have H3 := Lib.hid st_502
  go_enter Try.func7, Try.ntmps7
  go_wp2_with fail
  refine (product_any _ _ _ _ _ _ HI.out (by omega) (by omega) i64_455).mono ?_
  rintro e w1 ⟨rfl, rfl⟩
  rw [H1.out.1, H1.out.2]
  go_wp2_with fail
  refine (div_any _ _ _).mono ?_
  rintro e w1 ⟨rfl, rfl⟩
  rw [H2.out.1]
  go_wp2_with fail
  refine (mod_any _ _ (by unfold I64; omega) _).mono ?_
  rintro e w1 ⟨rfl, rfl⟩
  rw [H2.out.2]
  go_wp2_with fail
  refine (steps_any _ _ _ _).mono ?_
  rintro e w1 ⟨rfl, rfl⟩
  rw [H3.out.1, H3.out.2]
  go_wp2_with fail
  go_ret
  exact ⟨rfl, (Below.refl _ _).alloc (Nat.le_refl _) _⟩

theorem numDivides_walk (a b : Int) (ha : I64 a) (hb : I64 b) (w : World) :
    Calls Try.prog 4 #[.int .i64 a, .int .i64 b] w fun e w' => e = .returned (.bool true) ∧ Below w.heap.size w w' := by
  go_enter Try.func4, Try.ntmps4
  go_wp2_with (first
    | (go_at_call 12; refine (div_any _ _ _).mono ?_; rintro e w' ⟨rfl, rfl⟩)
    | (go_at_call 13; refine (refDiv_any _ _ _).mono ?_; rintro e w' ⟨rfl, rfl⟩)
    | (go_at_call 14; refine (mod_any _ _ hb _).mono ?_; rintro e w' ⟨rfl, rfl⟩)
    | (go_at_call 15; refine (refMod_any _ _ hb _).mono ?_; rintro e w' ⟨rfl, rfl⟩)
    | (go_at_call 16; refine (down_any _ _ ha hb _).mono ?_; rintro e w' ⟨rfl, rfl⟩)
    | (go_at_call 17; refine (refDown_any _ _ ha hb _).mono ?_; rintro e w' ⟨rfl, rfl⟩)
    | (go_at_call 7; refine (knows_any _).mono ?_; rintro e w' ⟨rfl, hB⟩))
  all_goals go_ret
  all_goals exact ⟨rfl, hB⟩
theorem numPlaces_walk (i n s : Int) (hi : I64 i) (hn : I64 n) (w : World) :
    Calls Try.prog 5 #[.int .i64 i, .int .i64 n, .int .i64 s] w fun e w' => e = .returned (.bool true) ∧ Below w.heap.size w w' := by
  go_enter Try.func5, Try.ntmps5
  go_wp2_with (first
    | (go_at_call 18; refine (place_any _ _ hi hn _).mono ?_; rintro e w' ⟨rfl, rfl⟩)
    | (go_at_call 19; refine (refPlace_any _ _ hi hn _).mono ?_; rintro e w' ⟨rfl, rfl⟩)
    | (go_at_call 20; refine (steps_any _ _ _ _).mono ?_; rintro e w' ⟨rfl, rfl⟩)
    | (go_at_call 21; refine (refSteps_any _ _ _ _).mono ?_; rintro e w' ⟨rfl, rfl⟩)
    | (go_at_call 7; refine (knows_any _).mono ?_; rintro e w' ⟨rfl, hB⟩))
  all_goals go_ret
  all_goals exact ⟨rfl, hB⟩

theorem pr_zero_of (most : Int) (zs : List Int) (h : prB most zs = false) : pr most zs = 0 := by unfold pr; rw [h]; rfl
theorem pr_of (most : Int) (zs : List Int) (h : prB most zs = true) : pr most zs = prodL zs := by unfold pr; rw [h]; rfl
theorem below_drewN' {w w' : World} {m : Nat} (h : Below (w.drewN m).heap.size (w.drewN m) w') : Below w.heap.size w w' := ⟨h.os, h.tape, h.output, h.size, h.block⟩
theorem numSizes_walk (most : Int) (A : Option Addr) (n c : Nat) (zs : List Int) (w : World) (h : Ints w A n zs) (hn : n ≤ 9223372036854775807) (hm : most ≤ 9223372036854775807) (hzs : ∀ z ∈ zs, I64 z) :
    Calls Try.prog 3 #[.int .i64 most, .slice A n c] w fun e w' => e = .returned (.bool true) ∧ Below w.heap.size w w' := by
  have HI := Lib.hid h
  have HZ := Lib.hid hzs
  clear h hzs
  by_cases h60 : (n : Int) > 60
  · go_enter Try.func3, Try.ntmps3
    go_wp2_with (go_at_call 7; refine (knows_any _).mono ?_; rintro e w' ⟨rfl, hB⟩)
    all_goals go_ret
    all_goals exact ⟨rfl, hB⟩
  · cases hb : prB most zs
    all_goals
      have HP := Lib.hid hb
      clear hb
      go_enter Try.func3, Try.ntmps3
      go_wp2_with fail
      refine (product_any _ _ _ _ zs _ HI.out hn hm HZ.out).mono ?_
      rintro e w1 ⟨rfl, rfl⟩
      rw [HP.out]
      first | rw [pr_zero_of _ _ HP.out] | rw [pr_of _ _ HP.out]
      go_wp2_with fail
      refine (refProduct_any _ _ _ _ zs _ HI.out hn hm HZ.out).mono ?_
      rintro e w1 ⟨p, hp, rfl, m, rfl⟩
      first | (have e := hp (by exact HP.out); subst e) | clear hp
      rw [HP.out]
      go_wp2_with fail
      refine (total_any _ _ _ _ zs _ (HI.out.drewN _) hn hm HZ.out).mono ?_
      rintro e w1 ⟨rfl, rfl⟩
      go_wp2_with fail
      refine (refTotal_any _ _ _ _ zs _ (HI.out.drewN _) hn hm HZ.out).mono ?_
      rintro e w1 ⟨rfl, rfl⟩
      go_wp2_with (go_at_call 7; refine (knows_any _).mono ?_; rintro e w' ⟨rfl, hB⟩)
      all_goals go_ret
      all_goals exact ⟨rfl, below_drewN' hB⟩
end Go.Proofs.Ytongdiijaiheeaa
