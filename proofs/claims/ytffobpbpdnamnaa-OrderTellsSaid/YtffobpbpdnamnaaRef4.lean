/-
  Layer 4: the law package's cmp, ints; the reference's Take, Rising.
-/
import Derived.Test.YtffobpbpdnamnaaRowI
import Derived.Maps.AppendAt
import Derived.BigQuiet
import Derived.Deep.QuietTactic
namespace Go.Proofs.Ytffobpbpdnamnaa
open Go.ChangeShapes Go.WideShapes Go.ChangeAt Go.RowKit
set_option linter.unusedVariables false

def cmpI (a b : Int) : Int := if a < b then -1 else if b < a then 1 else 0
theorem cmp4_any (a b : Int) (w : World) : Calls Try.prog 13 #[.int .i64 a, .int .i64 b] w fun e w' => e = .returned (.int .i64 (cmpI a b)) ∧ w' = w := by
  by_cases h1 : a < b
  · have HE := Lib.hid (show cmpI a b = -1 by unfold cmpI; rw [if_pos h1])
    go_enter Try.func13, Try.ntmps13
    go_wp2
    go_ret
    exact ⟨by rw [HE.out]; rfl, rfl⟩
  · by_cases h2 : b < a
    · have HE := Lib.hid (show cmpI a b = 1 by unfold cmpI; rw [if_neg h1, if_pos h2])
      go_enter Try.func13, Try.ntmps13
      go_wp2
      go_ret
      exact ⟨by rw [HE.out]; rfl, rfl⟩
    · have HE := Lib.hid (show cmpI a b = 0 by unfold cmpI; rw [if_neg h1, if_neg h2])
      go_enter Try.func13, Try.ntmps13
      go_wp2
      go_ret
      exact ⟨by rw [HE.out]; rfl, rfl⟩
theorem ints_eq {l l' : List Int} (hl : l.length = l'.length) (h : ∀ i, i < l.length → l.getD i 0 = l'.getD i 0) : l = l' := by
  apply List.ext_getElem hl
  intro i h1 h2
  have := h i h1
  simpa [List.getD, h1, h2] using this
set_option maxHeartbeats 1000000 in
theorem ints4_any (A A' : Option Addr) (k k' c c' : Nat) (l l' : List Int) (B B' : Nat) (w : World) (h : Nums w B A k l) (h' : Nums w B' A' k' l') (hk : k ≤ 1048576) (hk' : k' ≤ 1048576) :
    Calls Try.prog 11 #[.slice A k c, .slice A' k' c'] w (ToldV (.bool (decide (l = l'))) w) := by
  have H := Lib.hid h
  have H' := Lib.hid h'
  have HL := Lib.hid h.1
  have HL' := Lib.hid h'.1
  clear h h'
  by_cases hnn : k = k'
  · subst hnn
    go_enter Try.func11, Try.ntmps11
    go_wp2
    go_loopw [5] (fun i wr => ∃ x m : Nat, x ≤ k ∧ i = .int .i64 x ∧ (∀ j, j < x → l.getD j 0 = l'.getD j 0) ∧ wr = w.drewN m) (fun i _ => k - (intOf i).toNat)
    case atStart => exact ⟨0, 0, by omega, rfl, fun i hi => by omega, rfl⟩
    case round =>
      obtain ⟨x, m, hx, rfl, hq, hwr⟩ := hrel
      have HQ := Lib.hid hq
      clear hq
      by_cases hlt : x < k
      · obtain ⟨b, off, rfl, _, hc⟩ := (H.out.drewN m).2.at_ hlt
        obtain ⟨b', off', rfl, _, hc'⟩ := (H'.out.drewN m).2.at_ hlt
        rw [← hwr] at hc hc'
        have HW := Lib.hid hwr
        clear hwr
        generalize h1 : l.getD x 0 = v at *
        generalize h2 : l'.getD x 0 = v' at *
        have H1 := Lib.hid h1
        have H2 := Lib.hid h2
        clear h1 h2
        by_cases he : v = v'
        · subst he
          have hb : (v != v) = false := by simp
          go_wp2
          go_quiet (fail)
          go_wp2
          go_roundw
          case rel => exact ⟨x + 1, _, by omega, by go_num, fun j hj => by
            by_cases hjx : j = x
            · subst hjx; rw [H1.out, H2.out]
            · exact HQ.out j (by omega), by rw [HW.out, World.drewN_drewN]⟩
          case measure => simp [intOf]; omega
        · have hb : (v != v') = true := by simp; omega
          have HE := Lib.hid he
          clear he
          go_wp2
          go_quiet (fail)
          go_wp2
          go_ret
          rw [HW.out, World.drewN_drewN]
          refine toldV_eq (congrArg Value.bool (decide_eq_false fun hh => HE.out ?_)) w _
          rw [← H1.out, ← H2.out, hh]
      · obtain rfl : k = x := by omega
        subst hwr
        go_wp2
        go_ret
        exact toldV_eq (congrArg Value.bool (decide_eq_true (ints_eq (by rw [HL.out, HL'.out]) fun i hi => HQ.out i (by rw [HL.out] at hi; exact hi)))) w m
  · have hne : ((k : Int) != (k' : Int)) = true := by simp; omega
    have HNN := Lib.hid hnn
    clear hnn
    go_enter Try.func11, Try.ntmps11
    go_wp2
    go_ret
    refine toldV_eq (congrArg Value.bool (decide_eq_false fun hh => HNN.out ?_)) w 0
    rw [← HL.out, ← HL'.out, hh]

/-! ### Take -/
/-- are all of these places of n? -/
def allIn (n : Nat) (ps : List Int) : Bool := ps.all fun p => decide (0 ≤ p ∧ p < n)
def takeL (l ps : List Int) : List Int := ps.map fun p => l.getD p.toNat 0
def takeE (l ps : List Int) : List Int := if allIn l.length ps then takeL l ps else []
theorem takeL_snoc (l ps : List Int) (x : Nat) (h : x < ps.length) : takeL l (ps.take (x + 1)) = takeL l (ps.take x) ++ [l.getD (ps.getD x 0).toNat 0] := by
  unfold takeL
  rw [List.take_succ_eq_append_getElem h, List.map_append]
  simp [List.getD, h]
theorem allIn_get {n : Nat} {ps : List Int} (h : allIn n ps = true) {x : Nat} (hx : x < ps.length) : 0 ≤ ps.getD x 0 ∧ ps.getD x 0 < n := by
  have := List.all_eq_true.1 h (ps.getD x 0) (by simp only [List.getD, List.getElem?_eq_getElem hx, Option.getD_some]; exact List.getElem_mem _)
  exact of_decide_eq_true this
theorem allIn_not {n : Nat} {ps : List Int} {x : Nat} (hx : x < ps.length) (h : ¬ (0 ≤ ps.getD x 0 ∧ ps.getD x 0 < n)) : allIn n ps = false := by
  cases hb : allIn n ps
  · rfl
  · exact absurd (allIn_get hb hx) h
theorem allIn_of {n : Nat} {ps : List Int} (h : ∀ x, x < ps.length → 0 ≤ ps.getD x 0 ∧ ps.getD x 0 < n) : allIn n ps = true := by
  refine List.all_eq_true.2 fun p hp => ?_
  obtain ⟨i, hi, e⟩ := List.getElem_of_mem hp
  have := h i hi
  simp only [List.getD, List.getElem?_eq_getElem hi, Option.getD_some, e] at this
  exact decide_eq_true this
set_option maxHeartbeats 1000000 in
theorem ref4Take_any (A A' : Option Addr) (n k c c' : Nat) (l ps : List Int) (w : World) (h : Nums w w.heap.size A n l) (h' : Nums w w.heap.size A' k ps) (hn : n ≤ 1048576) (hk : k ≤ 1048576) :
    Calls Try.prog 8 #[.slice A n c, .slice A' k c'] w (GaveIntsB (takeE l ps) (allIn l.length ps) w) := by
  have H := Lib.hid h
  have H' := Lib.hid h'
  have HL := Lib.hid h.1
  have HL' := Lib.hid h'.1
  obtain ⟨i0, hi, hz0, hz1, hz2⟩ := info_parts info_int
  clear h h'
  go_enter Try.func8, Try.ntmps8
  go_wp2
  go_loopw [6, 7] (fun v i wr => ∃ x : Nat, x ≤ k ∧ i = .int .i64 x ∧ wr.ownsRow w.heap.size 3 1 v x (intV (takeL l (ps.take x))) ∧ (∀ j, j < x → 0 ≤ ps.getD j 0 ∧ ps.getD j 0 < n) ∧ w.grownBy wr none) (fun _ i _ => k - (intOf i).toNat)
  case atStart => exact ⟨0, by omega, rfl, World.ownsRow_nil _ _ _ _, fun j hj => by omega, grown_refl _ _⟩
  case round =>
    obtain ⟨x, hx, rfl, ho, hq, hg⟩ := hrel
    have HQ := Lib.hid hq
    have HO := Lib.hid ho
    have HG := Lib.hid hg
    clear hq ho
    by_cases hlt : x < k
    · obtain ⟨b', off', rfl, _, hc'⟩ := (H'.out.grow hg).2.at_ hlt
      have HT := Lib.hid (takeL_snoc l ps x (by rw [HL'.out]; exact hlt))
      have HP := Lib.hid (show ps.getD x 0 = ps.getD x 0 from rfl)
      have HXL := Lib.hid (show x < ps.length by rw [HL'.out]; exact hlt)
      generalize hp : ps.getD x 0 = p at *
      have HPX := Lib.hid hp
      clear hp
      by_cases h0 : 0 ≤ p
      · by_cases h1 : p < n
        · obtain ⟨i, rfl⟩ : ∃ i : Nat, p = i := ⟨p.toNat, by omega⟩
          obtain ⟨b, off, rfl, _, hc⟩ := (H.out.grow hg).2.at_ (k := i) (by omega)
          rw [Int.toNat_natCast] at HT
          generalize l.getD i 0 = z at *
          have hsz := hg.size
          clear hg
          go_wp2_with (at_builtin; refine wpList_append_own_at _ rfl (.tmp 28) (.tmp 36) _ rfl w.heap.size 3 i0 _ 1 8 Try.underlying22 hi hz0 hz1 hz2 rfl (by omega) u6 x _ rfl (HO.out.alloc _) ⟨_, 0, none⟩ 1 1 [.int .i64 z] rfl rfl (new_cell1 _ _ _) (by simp [Value.oneCell']) (by simp only [maxLen]; omega) (by omega) (by simp; omega) ?_; intro v7' w4 hown4 hg4 _ hat4; have HO4 := Lib.hid hown4; have HG4 := Lib.hid hg4; clear hown4 hg4 hat4)
          go_roundw
          case rel => exact ⟨x + 1, by omega, by go_num, by rw [HT.out, intV_snoc]; exact HO4.out, fun j hj => by
            by_cases hjx : j = x
            · subst hjx; rw [HPX.out]; omega
            · exact HQ.out j (by omega), grown_join (grown_alloc HG.out _) HG4.out (.inr fun y hy => (HO.out.lt y hy).1)⟩
          case measure => simp [intOf]; omega
        · have HF := Lib.hid (allIn_not (n := l.length) HXL.out (by rw [HPX.out, HL.out]; omega))
          clear hg
          go_wp2
          go_ret2
          unfold GaveIntsB takeE
          rw [HF.out]
          exact ⟨none, 0, rfl, OwnI.nil _ _, HG.out⟩
      · have HF := Lib.hid (allIn_not (n := l.length) HXL.out (by rw [HPX.out]; omega))
        clear hg
        go_wp2
        go_ret2
        unfold GaveIntsB takeE
        rw [HF.out]
        exact ⟨none, 0, rfl, OwnI.nil _ _, HG.out⟩
    · obtain rfl : k = x := by omega
      have HF := Lib.hid (allIn_of (n := l.length) (ps := ps) (fun x hx => by rw [HL.out]; exact HQ.out x (by rw [HL'.out] at hx; exact hx)))
      clear hg
      go_wp2
      go_ret2
      have h2 := HO.out
      rw [List.take_of_length_le (by rw [HL'.out]; exact Nat.le_refl _)] at h2
      obtain ⟨A2, c2, rfl⟩ := own_slice1 h2
      unfold GaveIntsB takeE
      rw [HF.out, if_pos rfl]
      have e : (takeL l ps).length = k := by unfold takeL; rw [List.length_map, HL'.out]
      rw [e]
      exact ⟨A2, c2, rfl, ⟨e, h2⟩, HG.out⟩
end Go.Proofs.Ytffobpbpdnamnaa
