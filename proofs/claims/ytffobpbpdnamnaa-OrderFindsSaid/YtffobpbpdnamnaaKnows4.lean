/-
  Layer 4: the law package's knows, sorted.
-/
import Derived.Test.YtffobpbpdnamnaaRanks4
namespace Go.Proofs.Ytffobpbpdnamnaa
open Go.ChangeShapes Go.WideShapes Go.ChangeAt Go.RowKit
set_option linter.unusedVariables false

theorem ints4_yes (A A' : Option Addr) (k c c' : Nat) (l : List Int) (w : World) (h : Nums w w.heap.size A k l) (h' : Nums w w.heap.size A' k l) (hk : k ≤ 1048576) :
    Calls Try.prog 11 #[.slice A k c, .slice A' k c'] w fun e w' => e = .returned (.bool true) ∧ w.grownBy w' none := by
  refine (ints4_any A A' k k c c' l l w.heap.size w.heap.size w h h' hk hk).mono ?_
  rintro e w' ⟨rfl, m, rfl⟩
  exact ⟨by rw [decide_eq_true rfl], grown_drewN (grown_refl _ _) _⟩
theorem row_nums {w : World} {Z : Array Value} {zs : List Int} (h : Z = (intV zs).toArray) : Nums (w.alloc (.cells Z 3)) (w.alloc (.cells Z 3)).heap.size (some ⟨w.heap.size, 0, none⟩) zs.length zs := by
  have hw : Whole (w.alloc (.cells Z 3)) w.heap.size zs := by
    unfold Whole
    rw [h]
    exact heap_alloc_new w _
  have := hw.nums (i := 0) (n := zs.length) (by omega)
  simpa using this
theorem known_order : InOrder (valI [3, 1, 3, 2]) 4 [1, 3, 0, 2] := by
  refine ⟨?_, fun x => ?_⟩
  · simp [Ahead, valI]
  · simp only [List.mem_cons, List.not_mem_nil, or_false]; omega
set_option maxHeartbeats 1000000 in
theorem knows4_any (w : World) : Calls Try.prog 6 #[] w fun e w' => e = .returned (.bool true) ∧ w.grownBy w' none := by
  have HN1 := Lib.hid (row_nums (w := w) (Z := #[.int .i64 3, .int .i64 1, .int .i64 3, .int .i64 2]) (zs := [3, 1, 3, 2]) rfl)
  have HG1 := Lib.hid (World.grownBy_alloc w (.cells #[.int .i64 3, .int .i64 1, .int .i64 3, .int .i64 2] 3) none)
  go_enter Try.func6, Try.ntmps6
  go_wp2_with fail
  refine (sort4_told (n := 4) (l := [3, 1, 3, 2]) HN1.out (by omega) _ (grown_refl _ _)).mono ?_
  rintro e w1 ⟨p, A2, c2, rfl, hp, ho, hg⟩
  obtain rfl : p = [1, 3, 0, 2] := hp.one known_order
  have HG2 := Lib.hid (grown_join HG1.out hg (.inr (by simp)))
  have HN2 := Lib.hid ho.nums
  have HN3 := Lib.hid (row_nums (w := w1) (Z := #[.int .i64 1, .int .i64 3, .int .i64 0, .int .i64 2]) (zs := [1, 3, 0, 2]) rfl)
  clear hp ho hg HN1 HG1
  go_wp2_with fail
  refine (ints4_yes A2 _ 4 c2 4 [1, 3, 0, 2] _ (HN2.out.grow (World.grownBy_alloc w1 _ none)) HN3.out (by omega)).mono ?_
  rintro e w2 ⟨rfl, hg⟩
  have HG3 := Lib.hid (grown_join (grown_alloc HG2.out _) hg (.inr (by simp)))
  clear hg
  go_wp2_with fail
  go_ret
  exact ⟨rfl, HG3.out⟩

/-! ### sorted -/
def SortedL (l : List Int) (w : World) (e : Ending) (w' : World) : Prop := ∃ (zs : List Int) (A : Option Addr) (c : Nat), e = .returned (.slice A l.length c) ∧ UpK id zs ∧ OwnI w' w.heap.size A l.length c zs ∧ w.grownBy w' none
theorem take_order {l : List Int} {p : List Nat} (h : InOrder (atK id l) l.length p) : allIn l.length (placesI p) = true ∧ (takeL l (placesI p)).length = l.length ∧ UpK id (takeL l (placesI p)) := by
  have hl := h.length
  have hpl : (placesI p).length = l.length := by rw [placesI_length, hl]
  refine ⟨allIn_of fun x hx => ?_, by rw [takeL_length, hpl], fun i j hij hj => ?_⟩
  · rw [hpl] at hx
    rw [placesI_get (by omega)]
    have := h.get_lt hx
    omega
  · rw [takeL_length, hpl] at hj
    rw [takeL_get _ _ _ (by omega), takeL_get _ _ _ (by omega), placesI_get (by omega), placesI_get (by omega), Int.toNat_natCast, Int.toNat_natCast]
    rcases Nat.eq_or_lt_of_le hij with e | hlt
    · subst e; exact Int.le_refl _
    · have := h.ahead hlt hj
      unfold Ahead atK at this
      simp only [id] at this ⊢
      omega
set_option maxHeartbeats 1000000 in
theorem sorted4_any (A : Option Addr) (n c : Nat) (l : List Int) (w : World) (h : Nums w w.heap.size A n l) (hn : n ≤ 1048576) :
    Calls Try.prog 17 #[.slice A n c] w (SortedL l w) := by
  have H := Lib.hid h
  have HL := Lib.hid h.1
  clear h
  go_enter Try.func17, Try.ntmps17
  go_wp2_with fail
  refine (ref4Sort_any A n c l _ H.out hn).mono ?_
  rintro e w1 ⟨p, hp, A1, c1, rfl, ho, hg⟩
  have hpl : (placesI p).length = n := by rw [placesI_length, hp.length, HL.out]
  rw [hpl] at ho ⊢
  have HT := Lib.hid (take_order hp)
  have HN1 := Lib.hid ho.nums
  have HG1 := Lib.hid hg
  have H1 := Lib.hid (H.out.grow hg)
  clear hp ho hg hpl
  go_wp2_with fail
  refine (ref4Take_any A A1 n n c c1 l (placesI p) _ H1.out HN1.out hn hn).mono ?_
  rintro e w2 ⟨A2, c2, rfl, ho, hg⟩
  have e2 : takeE l (placesI p) = takeL l (placesI p) := by unfold takeE; rw [HT.out.1, if_pos rfl]
  rw [e2, HT.out.2.1] at ho
  rw [e2, HT.out.2.1]
  have HO := Lib.hid ho
  have HG2 := Lib.hid (grown_join HG1.out hg (.inr (by simp)))
  have HSZ := Lib.hid HG1.out.size
  clear ho hg e2
  go_wp2_with fail
  go_ret
  exact ⟨_, A2, c2, rfl, HT.out.2.2, HO.out.lower HSZ.out, HG2.out⟩
end Go.Proofs.Ytffobpbpdnamnaa
