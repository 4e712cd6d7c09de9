/-
  Layer 4: the reference's Rising, Merge.
-/
import Derived.Test.YtffobpbpdnamnaaRef4b
import Derived.IntWalk
namespace Go.Proofs.Ytffobpbpdnamnaa
open Go.ChangeShapes Go.WideShapes Go.ChangeAt Go.RowKit
set_option linter.unusedVariables false

/-! ### Rising -/
/-- r things from the first one on come each behind the one ahead. -/
def IsRise (l : List Int) (r : Nat) : Prop := (l.length = 0 ∧ r = 0) ∨ (0 < r ∧ r ≤ l.length ∧ (∀ i, 0 < i → i < r → l.getD (i - 1) 0 < l.getD i 0) ∧ (r < l.length → ¬ l.getD (r - 1) 0 < l.getD r 0))
theorem IsRise.one {l : List Int} {r s : Nat} (h : IsRise l r) (k : IsRise l s) : r = s := by
  rcases h with ⟨h1, h2⟩ | ⟨h1, h2, h3, h4⟩
  · rcases k with ⟨k1, k2⟩ | ⟨k1, k2, k3, k4⟩
    · omega
    · omega
  · rcases k with ⟨k1, k2⟩ | ⟨k1, k2, k3, k4⟩
    · omega
    · rcases Nat.lt_trichotomy r s with hlt | e | hgt
      · exact absurd (k3 r h1 hlt) (h4 (by omega))
      · exact e
      · exact absurd (h3 s k1 hgt) (k4 (by omega))
def RiseEnd (l : List Int) (w : World) (e : Ending) (w' : World) : Prop := ∃ r : Nat, IsRise l r ∧ e = .returned (.int .i64 (r : Int)) ∧ ∃ m, w' = w.drewN m
set_option maxHeartbeats 1000000 in
theorem ref4Rising_any (A : Option Addr) (n c : Nat) (l : List Int) (B : Nat) (w : World) (h : Nums w B A n l) (hn : n ≤ 1048576) :
    Calls Try.prog 20 #[.slice A n c] w (RiseEnd l w) := by
  have H := Lib.hid h
  have HL := Lib.hid h.1
  clear h
  by_cases h0 : n = 0
  · subst h0
    go_enter Try.func20, Try.ntmps20
    go_wp2
    go_ret
    exact ⟨0, .inl ⟨HL.out, rfl⟩, rfl, 0, rfl⟩
  · have hne : ((n : Int) == 0) = false := by simp; omega
    go_enter Try.func20, Try.ntmps20
    go_wp2
    go_loopw [3] (fun i wr => ∃ x m : Nat, 0 < x ∧ x ≤ n ∧ i = .int .i64 x ∧ (∀ j, 0 < j → j < x → l.getD (j - 1) 0 < l.getD j 0) ∧ wr = w.drewN m) (fun i _ => n - (intOf i).toNat)
    case atStart => exact ⟨1, 0, by omega, by omega, rfl, fun j h1 h2 => by omega, rfl⟩
    case round =>
      obtain ⟨x, m, hx0, hx, rfl, hq, hwr⟩ := hrel
      have HQ := Lib.hid hq
      clear hq
      by_cases hlt : x < n
      · obtain ⟨y, rfl⟩ : ∃ y, x = y + 1 := ⟨x - 1, by omega⟩
        have hd : decide ((y : Int) + 1 < (n : Int)) = true := by simp; omega
        obtain ⟨b, off, rfl, _, hc⟩ := (H.out.drewN m).2 (by omega)
        have g1 := hc y (by omega)
        have g2 := hc (y + 1) hlt
        dsimp only at g1 g2
        rw [← hwr] at g1 g2
        have HW := Lib.hid hwr
        clear hwr hc
        generalize h1 : l.getD y 0 = v at *
        generalize h2 : l.getD (y + 1) 0 = v' at *
        have H1 := Lib.hid h1
        have H2 := Lib.hid h2
        clear h1 h2
        have s1 : ((y : Int) + 1 - 1) = (y : Int) := by omega
        have hw1 : IntKind.i64.wrap ((y : Int) + 1 - 1) = (y : Int) := by rw [s1]; exact IntWalk.i64_in _ (by omega)
        by_cases he : v < v'
        · have hb : decide (v < v') = true := by simp [he]
          go_wp2
          go_quiet (fail)
          go_wp2
          go_roundw
          case rel => exact ⟨y + 2, _, by omega, by omega, by go_num, fun j h1 h2 => by
            by_cases e : j = y + 1
            · subst e; rw [Nat.add_sub_cancel, H1.out, H2.out]; exact he
            · exact HQ.out j h1 (by omega), by rw [HW.out, World.drewN_drewN]⟩
          case measure => simp [intOf]; omega
        · have hb : decide (v < v') = false := by simp; omega
          have HE := Lib.hid he
          clear he
          go_wp2
          go_quiet (fail)
          go_wp2
          go_ret
          refine ⟨y + 1, .inr ⟨by omega, by rw [HL.out]; omega, HQ.out, fun _ => ?_⟩, rfl, _, by rw [HW.out, World.drewN_drewN]⟩
          rw [Nat.add_sub_cancel, H1.out, H2.out]
          exact Int.not_lt.2 HE.out
      · obtain rfl : n = x := by omega
        have hd : decide ((n : Int) < (n : Int)) = false := by simp
        have HW := Lib.hid hwr
        clear hwr
        go_wp2
        go_quiet (fail)
        go_wp2
        go_ret
        exact ⟨n, .inr ⟨hx0, by rw [HL.out]; exact Nat.le_refl _, HQ.out, fun h => by rw [HL.out] at h; omega⟩, rfl, _, by rw [HW.out, World.drewN_drewN]⟩

/-! ### Merge -/
theorem _root_.Go.World.ownsRow.drewN {w : World} {B e size n : Nat} {v : Value} {xs : List Value} (h : w.ownsRow B e size v n xs) (q : Nat) : (w.drewN q).ownsRow B e size v n xs := h
set_option maxHeartbeats 2000000 in
theorem ref4Merge_any (A A' : Option Addr) (n n' c c' : Nat) (a b : List Int) (w : World) (h : Nums w w.heap.size A n a) (h' : Nums w w.heap.size A' n' b) (hn : n ≤ 1048576) (hn' : n' ≤ 1048576) :
    Calls Try.prog 22 #[.slice A n c, .slice A' n' c'] w (GaveInts (mrg a b) w) := by
  have H := Lib.hid h
  have H' := Lib.hid h'
  have HL := Lib.hid h.1
  have HL' := Lib.hid h'.1
  obtain ⟨i0, hi, hz0, hz1, hz2⟩ := info_parts info_int
  clear h h'
  go_enter Try.func22, Try.ntmps22
  go_wp2
  go_loopw [5, 6, 7] (fun v i k wr => ∃ (x y : Nat) (xs : List Int), x ≤ n ∧ y ≤ n' ∧ i = .int .i64 x ∧ k = .int .i64 y ∧ xs.length = x + y ∧ mrg a b = xs ++ mrg (a.drop x) (b.drop y) ∧ wr.ownsRow w.heap.size 3 1 v (x + y) (intV xs) ∧ w.grownBy wr none) (fun _ i k _ => n - (intOf i).toNat + (n' - (intOf k).toNat))
  case atStart => exact ⟨0, 0, [], by omega, by omega, rfl, rfl, rfl, by simp, World.ownsRow_nil _ _ _ _, grown_refl _ _⟩
  case round =>
    obtain ⟨x, y, xs, hx, hy, rfl, rfl, hlen, hm, ho, hg⟩ := hrel
    have HXS := Lib.hid hlen
    have HM := Lib.hid hm
    have HO := Lib.hid ho
    have HG := Lib.hid hg
    have hsz := hg.size
    clear hlen hm ho
    by_cases h1 : x < n
    · obtain ⟨ba, oa, rfl, _, ca⟩ := (H.out.grow hg).2.at_ h1
      have d1 : decide ((x : Int) < (n : Int)) = true := by simp; omega
      by_cases h2 : y < n'
      · obtain ⟨bb, ob, rfl, _, cb⟩ := (H'.out.grow hg).2.at_ h2
        have d2 : decide ((n' : Int) ≤ (y : Int)) = false := by simp; omega
        by_cases h3 : a.getD x 0 ≤ b.getD y 0
        · have HS := Lib.hid (mrg_take (a := a) (b := b) (i := x) (k := y) (by rw [HL.out]; exact h1) (.inr h3))
          generalize a.getD x 0 = u at *
          generalize b.getD y 0 = v at *
          have d3 : decide (u ≤ v) = true := by simp [h3]
          clear hg h3
          go_wp2
          go_quiet (fail)
          go_wp2_with (at_builtin; refine wpList_append_own_at _ rfl (.tmp 39) (.tmp 44) _ rfl w.heap.size 3 i0 _ 1 8 Try.underlying22 hi hz0 hz1 hz2 rfl (by omega) u5 (x + y) _ rfl ((HO.out.drewN nq).alloc _) ⟨_, 0, none⟩ 1 1 [.int .i64 u] rfl rfl (new_cell1 _ _ _) (by simp [Value.oneCell']) (by simp only [maxLen]; omega) (by omega) (by simp; omega) ?_; intro v7' w4 hown4 hg4 _ hat4; have HO4 := Lib.hid hown4; have HG4 := Lib.hid hg4; clear hown4 hg4 hat4)
          go_roundw
          case rel => exact ⟨x + 1, y, xs ++ [u], by omega, by omega, by go_num, rfl, by rw [List.length_append, HXS.out]; simp; omega, by rw [HM.out, HS.out]; simp, by rw [intV_snoc, show x + 1 + y = x + y + 1 by omega]; exact HO4.out, grown_join (grown_alloc (grown_drewN HG.out nq) _) HG4.out (.inr fun y hy => (HO.out.lt y hy).1)⟩
          case measure => simp [intOf]; omega
        · have HS := Lib.hid (mrg_give (a := a) (b := b) (i := x) (k := y) (by rw [HL'.out]; exact h2) (.inr h3))
          generalize a.getD x 0 = u at *
          generalize b.getD y 0 = v at *
          have d3 : decide (u ≤ v) = false := by simp; omega
          clear hg h3
          go_wp2
          go_quiet (fail)
          go_wp2_with (at_builtin; refine wpList_append_own_at _ rfl (.tmp 48) (.tmp 53) _ rfl w.heap.size 3 i0 _ 1 8 Try.underlying22 hi hz0 hz1 hz2 rfl (by omega) u5 (x + y) _ rfl ((HO.out.drewN nq).alloc _) ⟨_, 0, none⟩ 1 1 [.int .i64 v] rfl rfl (new_cell1 _ _ _) (by simp [Value.oneCell']) (by simp only [maxLen]; omega) (by omega) (by simp; omega) ?_; intro v7' w4 hown4 hg4 _ hat4; have HO4 := Lib.hid hown4; have HG4 := Lib.hid hg4; clear hown4 hg4 hat4)
          go_roundw
          case rel => exact ⟨x, y + 1, xs ++ [v], by omega, by omega, rfl, by go_num, by rw [List.length_append, HXS.out]; simp; omega, by rw [HM.out, HS.out]; simp, by rw [intV_snoc]; exact HO4.out, grown_join (grown_alloc (grown_drewN HG.out nq) _) HG4.out (.inr fun y hy => (HO.out.lt y hy).1)⟩
          case measure => simp [intOf]; omega
      · have HS := Lib.hid (mrg_take (a := a) (b := b) (i := x) (k := y) (by rw [HL.out]; exact h1) (.inl (by rw [HL'.out]; omega)))
        generalize a.getD x 0 = u at *
        have d2 : decide ((n' : Int) ≤ (y : Int)) = true := by simp; omega
        have d5 : decide (n' ≤ y) = true := by simp; omega
        clear hg
        go_wp2
        go_quiet (fail)
        go_wp2_with (at_builtin; refine wpList_append_own_at _ rfl (.tmp 39) (.tmp 44) _ rfl w.heap.size 3 i0 _ 1 8 Try.underlying22 hi hz0 hz1 hz2 rfl (by omega) u5 (x + y) _ rfl ((HO.out.drewN nq).alloc _) ⟨_, 0, none⟩ 1 1 [.int .i64 u] rfl rfl (new_cell1 _ _ _) (by simp [Value.oneCell']) (by simp only [maxLen]; omega) (by omega) (by simp; omega) ?_; intro v7' w4 hown4 hg4 _ hat4; have HO4 := Lib.hid hown4; have HG4 := Lib.hid hg4; clear hown4 hg4 hat4)
        go_roundw
        case rel => exact ⟨x + 1, y, xs ++ [u], by omega, by omega, by go_num, rfl, by rw [List.length_append, HXS.out]; simp; omega, by rw [HM.out, HS.out]; simp, by rw [intV_snoc, show x + 1 + y = x + y + 1 by omega]; exact HO4.out, grown_join (grown_alloc (grown_drewN HG.out nq) _) HG4.out (.inr fun y hy => (HO.out.lt y hy).1)⟩
        case measure => simp [intOf]; omega
    · have d1 : decide ((x : Int) < (n : Int)) = false := by simp; omega
      by_cases h2 : y < n'
      · obtain ⟨bb, ob, rfl, _, cb⟩ := (H'.out.grow hg).2.at_ h2
        have d2 : decide ((n' : Int) ≤ (y : Int)) = false := by simp; omega
        have d4 : decide ((y : Int) < (n' : Int)) = true := by simp; omega
        have d5 : decide (n' ≤ y) = false := by simp; omega
        have d6 : decide (x < n) = false := by simp; omega
        have d7 : decide (y < n') = true := by simp; omega
        have HS := Lib.hid (mrg_give (a := a) (b := b) (i := x) (k := y) (by rw [HL'.out]; exact h2) (.inl (by rw [HL.out]; omega)))
        generalize b.getD y 0 = v at *
        clear hg
        go_wp2
        go_quiet (fail)
        go_wp2_with (at_builtin; refine wpList_append_own_at _ rfl (.tmp 48) (.tmp 53) _ rfl w.heap.size 3 i0 _ 1 8 Try.underlying22 hi hz0 hz1 hz2 rfl (by omega) u5 (x + y) _ rfl ((HO.out.drewN nq).alloc _) ⟨_, 0, none⟩ 1 1 [.int .i64 v] rfl rfl (new_cell1 _ _ _) (by simp [Value.oneCell']) (by simp only [maxLen]; omega) (by omega) (by simp; omega) ?_; intro v7' w4 hown4 hg4 _ hat4; have HO4 := Lib.hid hown4; have HG4 := Lib.hid hg4; clear hown4 hg4 hat4)
        go_roundw
        case rel => exact ⟨x, y + 1, xs ++ [v], by omega, by omega, rfl, by go_num, by rw [List.length_append, HXS.out]; simp; omega, by rw [HM.out, HS.out]; simp, by rw [intV_snoc]; exact HO4.out, grown_join (grown_alloc (grown_drewN HG.out nq) _) HG4.out (.inr fun y hy => (HO.out.lt y hy).1)⟩
        case measure => simp [intOf]; omega
      · obtain rfl : x = n := by omega
        obtain rfl : y = n' := by omega
        have d4 : decide ((y : Int) < (y : Int)) = false := by simp
        clear hg
        go_wp2
        go_ret
        have e : mrg a b = xs := by rw [HM.out, List.drop_of_length_le (by rw [HL.out]; exact Nat.le_refl _), mrg_nil_left, List.drop_of_length_le (by rw [HL'.out]; exact Nat.le_refl _)]; simp
        have h2 := HO.out
        obtain ⟨A2, c2, rfl⟩ := own_slice1 h2
        unfold GaveInts
        rw [e, HXS.out]
        exact ⟨A2, c2, rfl, ⟨HXS.out, h2⟩, HG.out⟩
end Go.Proofs.Ytffobpbpdnamnaa
