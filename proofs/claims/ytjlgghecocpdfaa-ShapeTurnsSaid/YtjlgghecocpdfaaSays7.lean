/-
  Layer 7: what the walks ask of the program's own shape; the law package's ints, knows.
-/
import Derived.Test.YtjlgghecocpdfaaRef7d
import Derived.Test.YtjlgghecocpdfaaRef7w
namespace Go.Proofs.Ytjlgghecocpdfaa
open Go.ChangeShapes Go.WideShapes Go.ChangeAt Go.RowKit
set_option linter.unusedVariables false

theorem ints_eq7 {l l' : List Int} (hl : l.length = l'.length) (h : ∀ i, i < l.length → l.getD i 0 = l'.getD i 0) : l = l' := by
  apply List.ext_getElem hl
  intro i h1 h2
  have := h i h1
  simpa [List.getD, h1, h2] using this
set_option maxHeartbeats 1000000 in
theorem ints7_any (A A' : Option Addr) (k k' c c' : Nat) (l l' : List Int) (B B' : Nat) (w : World) (h : Nums w B A k l) (h' : Nums w B' A' k' l') (hk : k ≤ 1048576) (hk' : k' ≤ 1048576) :
    Calls Try.prog 15 #[.slice A k c, .slice A' k' c'] w (ToldV (.bool (decide (l = l'))) w) := by
  have H := Lib.hid h
  have H' := Lib.hid h'
  have HL := Lib.hid h.1
  have HL' := Lib.hid h'.1
  clear h h'
  by_cases hnn : k = k'
  · subst hnn
    go_enter Try.func15, Try.ntmps15
    go_wp2
    go_loopw [5] (fun i wr => ∃ x m : Nat, x ≤ k ∧ i = .int .i64 x ∧ (∀ j, j < x → l.getD j 0 = l'.getD j 0) ∧ wr = w.drewN m) (fun i _ => k - (intOf i).toNat)
    case atStart => exact ⟨0, 0, by omega, rfl, fun i hi => by omega, rfl⟩
    case round =>
      obtain ⟨x, m, hx, rfl, hq, hwr⟩ := hrel
      have HQ := Lib.hid hq
      clear hq
      by_cases hlt : x < k
      · obtain ⟨b, off, rfl, _, hc⟩ := (H.out.drewN m).2.at_ hlt
        obtain ⟨b', off', rfl, _, hc'⟩ := (H'.out.drewN m).2.at_ hlt
        rw [← hwr] at hc hc'
        have HW := Lib.hid hwr
        clear hwr
        generalize h1 : l.getD x 0 = v at *
        generalize h2 : l'.getD x 0 = v' at *
        have H1 := Lib.hid h1
        have H2 := Lib.hid h2
        clear h1 h2
        by_cases he : v = v'
        · subst he
          have hb : (v != v) = false := by simp
          go_wp2
          go_quiet (fail)
          go_wp2
          go_roundw
          case rel => exact ⟨x + 1, _, by omega, by go_num, fun j hj => by
            by_cases hjx : j = x
            · subst hjx; rw [H1.out, H2.out]
            · exact HQ.out j (by omega), by rw [HW.out, World.drewN_drewN]⟩
          case measure => simp [intOf]; omega
        · have hb : (v != v') = true := by simp; omega
          have HE := Lib.hid he
          clear he
          go_wp2
          go_quiet (fail)
          go_wp2
          go_ret
          rw [HW.out, World.drewN_drewN]
          refine toldV_eq (congrArg Value.bool (decide_eq_false fun hh => HE.out ?_)) w _
          rw [← H1.out, ← H2.out, hh]
      · obtain rfl : k = x := by omega
        subst hwr
        go_wp2
        go_ret
        exact toldV_eq (congrArg Value.bool (decide_eq_true (ints_eq7 (by rw [HL.out, HL'.out]) fun i hi => HQ.out i (by rw [HL.out] at hi; exact hi)))) w m
  · have hne : ((k : Int) != (k' : Int)) = true := by simp; omega
    have HNN := Lib.hid hnn
    clear hnn
    go_enter Try.func15, Try.ntmps15
    go_wp2
    go_ret
    refine toldV_eq (congrArg Value.bool (decide_eq_false fun hh => HNN.out ?_)) w 0
    rw [← HL.out, ← HL'.out, hh]

/-! ### what is asked of the program's own -/
structure ShapeSays : Prop where
  right : ∀ A n c s w, NumsF w A n c s → n ≤ 1048576 → Calls Try.prog 13 #[.slice A n c] w (TellG (.bool (rightS s)) w)
  size : ∀ A n c s most w, NumsF w A n c s → n ≤ 1048576 → I64 most → Calls Try.prog 7 #[.slice A n c, .int .i64 most] w (TellG (.tuple #[.int .i64 (sizeV s most), .bool (sizeB s most)]) w)
  strides : ∀ A n c s w, NumsF w A n c s → n ≤ 1048576 → Calls Try.prog 16 #[.slice A n c] w (GaveN (stridesL s) w)
  has : ∀ A n c A' n' c' s t w, NumsF w A n c s → n ≤ 1048576 → NumsF w A' n' c' t → n' ≤ 1048576 → Calls Try.prog 18 #[.slice A n c, .slice A' n' c'] w (TellG (.bool (hasB s t)) w)
  place : ∀ A n c A' n' c' s t w, NumsF w A n c s → n ≤ 1048576 → NumsF w A' n' c' t → n' ≤ 1048576 → Calls Try.prog 9 #[.slice A n c, .slice A' n' c'] w (TellG (.tuple #[.int .i64 (placeV s t), .bool (placeB s t)]) w)
  at_ : ∀ A n c s p w, NumsF w A n c s → n ≤ 1048576 → I64 p → Calls Try.prog 11 #[.slice A n c, .int .i64 p] w (GaveNB (atL s p) (atB s p) w)
  without : ∀ A n c s x w, NumsF w A n c s → n ≤ 1048576 → I64 x → Calls Try.prog 20 #[.slice A n c, .int .i64 x] w (GaveNB (withoutL s x) (withoutB s x) w)
  with_ : ∀ A n c s x y w, NumsF w A n c s → n ≤ 1048576 → I64 x → I64 y → Calls Try.prog 22 #[.slice A n c, .int .i64 x, .int .i64 y] w (GaveNB (withL s x y) (withB s x y) w)
  permute : ∀ A n c A' n' c' s t w, NumsF w A n c s → n ≤ 1048576 → NumsF w A' n' c' t → n' ≤ 1048576 → (∀ z ∈ t, I64 z) → Calls Try.prog 24 #[.slice A n c, .slice A' n' c'] w (GaveNB (permL s t) (permB s t) w)
  join : ∀ A n c A' n' c' s t w, NumsF w A n c s → n ≤ 1048576 → NumsF w A' n' c' t → n' ≤ 1048576 → Calls Try.prog 26 #[.slice A n c, .slice A' n' c'] w (GaveNB (joinL s t) (joinB s t) w)

theorem atL_short (s : List Int) (p : Int) : (atL s p).length ≤ s.length := by unfold atL; split <;> simp
theorem str_short (s : List Int) : (stridesL s).length ≤ s.length := by unfold stridesL; split <;> simp
theorem without_short (s : List Int) (x : Int) : (withoutL s x).length ≤ s.length := by
  unfold withoutL
  split
  · rw [List.length_append, List.length_take, List.length_drop]; omega
  · simp
theorem with_short (s : List Int) (x y : Int) : (withL s x y).length ≤ s.length + 1 := by
  unfold withL
  split
  · rw [List.length_append, List.length_append, List.length_take, List.length_drop, List.length_singleton]; omega
  · simp
theorem perm_short (s t : List Int) : (permL s t).length ≤ t.length := by unfold permL; split <;> simp
theorem join_short (s t : List Int) : (joinL s t).length ≤ s.length := by unfold joinL; split <;> simp

/-! ### knows -/
theorem lit_numsF (w : World) (zs : List Int) (hz : zs.length ≤ 1048576) : NumsF (w.alloc (.cells (intV zs).toArray 3)) (some ⟨w.heap.size, 0, none⟩) zs.length zs.length zs := by
  have ho : OwnI (w.alloc (.cells (intV zs).toArray 3)) 0 (some ⟨w.heap.size, 0, none⟩) zs.length zs.length zs :=
    ⟨rfl, by simp [intV], .inr ⟨w.heap.size, zs.length, (intV zs).toArray, rfl, Nat.zero_le _, heap_alloc_new w _, Nat.le_refl _, by unfold maxLen; omega, by simp [intV], by rw [Nat.mul_one]; exact List.take_of_length_le (by simp [intV])⟩⟩
  exact ho.numsF
theorem two_numsF (w : World) (x y : Int) : NumsF (w.alloc (.cells #[.int .i64 x, .int .i64 y] 3)) (some ⟨w.heap.size, 0, none⟩) 2 2 [x, y] := lit_numsF w [x, y] (by simp)
theorem kn7_place : placeV [2, 3] [1, 2] = 5 ∧ placeB [2, 3] [1, 2] = true := by decide +kernel
theorem kn7_size : sizeV [2, 3] 6 = 6 ∧ sizeB [2, 3] 6 = true := by decide +kernel
theorem kn7_str : stridesL [2, 3] = [3, 1] := by decide +kernel
set_option maxHeartbeats 1000000 in
theorem knows7_any (S : ShapeSays) (w : World) : Calls Try.prog 6 #[] w (TellG (.bool true) w) := by
  have HS := Lib.hid S
  clear S
  obtain ⟨w1, hw1⟩ : ∃ w1, w1 = w.alloc (.cells #[.int .i64 2, .int .i64 3] 3) := ⟨_, rfl⟩
  have HN1 := Lib.hid (show NumsF w1 (some ⟨w.heap.size, 0, none⟩) 2 2 [2, 3] by rw [hw1]; exact two_numsF w 2 3)
  have HG1 := Lib.hid (show w.grownBy w1 none by rw [hw1]; exact World.grownBy_alloc _ _ _)
  have HW1 := Lib.hid hw1
  obtain ⟨w2, hw2⟩ : ∃ w2, w2 = w1.alloc (.cells #[.int .i64 1, .int .i64 2] 3) := ⟨_, rfl⟩
  have HN2 := Lib.hid (show NumsF w2 (some ⟨w1.heap.size, 0, none⟩) 2 2 [1, 2] by rw [hw2]; exact two_numsF w1 1 2)
  have HG2 := Lib.hid (show w1.grownBy w2 none by rw [hw2]; exact World.grownBy_alloc _ _ _)
  have HZ := Lib.hid (show w1.heap.size = w.heap.size + 1 by rw [hw1]; simp)
  have HW2 := Lib.hid hw2
  clear hw1 hw2
  rw [HZ.out] at HN2
  go_enter Try.func6, Try.ntmps6
  go_wp2_with fail
  rw [← HW1.out, ← HW2.out]
  refine (HS.out.place _ 2 2 _ 2 2 [2, 3] [1, 2] w2 (HN1.out.grow HG2.out) (by omega) HN2.out (by omega)).mono ?_
  rintro e w3 ⟨rfl, hg⟩
  rw [kn7_place.1, kn7_place.2]
  have HN3 := Lib.hid ((HN1.out.grow HG2.out).grow hg)
  have HG3 := Lib.hid (grown_join (grown_join HG1.out HG2.out (.inr (by simp))) hg (.inr (by simp)))
  clear hg
  go_wp2_with fail
  refine (HS.out.size _ 2 2 [2, 3] 6 w3 HN3.out (by omega) ⟨by omega, by omega⟩).mono ?_
  rintro e w4 ⟨rfl, hg⟩
  rw [kn7_size.1, kn7_size.2]
  have HN4 := Lib.hid (HN3.out.grow hg)
  have HG4 := Lib.hid (grown_join HG3.out hg (.inr (by simp)))
  clear hg
  go_wp2_with fail
  refine (HS.out.strides _ 2 2 [2, 3] w4 HN4.out (by omega)).mono ?_
  rintro e w5 ⟨A5, n5, c5, rfl, hn5, hg⟩
  rw [kn7_str] at hn5
  obtain rfl : n5 = 2 := hn5.len.symm
  have HN5 := Lib.hid hn5
  have HG5 := Lib.hid (grown_join HG4.out hg (.inr (by simp)))
  have HN6 := Lib.hid (two_numsF w5 3 1)
  clear hg hn5
  go_wp2_with fail
  refine (ints7_any A5 _ 2 2 c5 2 [3, 1] [3, 1] _ _ _ (HN5.out.grow (World.grownBy_alloc w5 _ none)).1 HN6.out.1 (by omega) (by omega)).mono ?_
  rintro e w7 ⟨rfl, m, rfl⟩
  have HG7 := Lib.hid (grown_drewN (grown_alloc HG5.out (.cells #[.int .i64 3, .int .i64 1] 3)) m)
  rw [decide_eq_true rfl]
  go_wp2_with fail
  go_ret
  exact ⟨rfl, HG7.out⟩
end Go.Proofs.Ytjlgghecocpdfaa
