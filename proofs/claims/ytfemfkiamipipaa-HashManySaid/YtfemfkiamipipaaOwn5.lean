/-
  Layer 5: the law package's Own, Ref, Light; the reference's Same, Unique, All.
-/
import Derived.Test.YtfemfkiamipipaaRef5e
namespace Go.Proofs.Ytfemfkiamipipaa
open Go.ChangeShapes Go.WideShapes Go.ChangeAt Go.RowKit
set_option linter.unusedVariables false

set_option maxHeartbeats 1000000 in
theorem lawOwn_any (A : Option Addr) (n c : Nat) (l : List Lab) (w : World) (h : Labs w w.heap.size A n l) (hn : n ≤ 1048576) :
    Calls Try.prog 10 #[.slice A n c] w (GaveLabs 38 l w) := by
  have H := Lib.hid h
  have HN := Lib.hid h.1
  obtain ⟨i0, hi, hz0, hz1, hz2⟩ := info_parts info_lab
  clear h
  go_enter Try.func10, Try.ntmps10
  go_wp2_with fail
  go_loopw [3, 4] (fun v i wr => ∃ x : Nat, x ≤ n ∧ i = .int .i64 x ∧ wr.ownsRow w.heap.size 38 3 v x (labV (l.take x)) ∧ w.grownBy wr none) (fun _ i _ => n - (intOf i).toNat)
  case atStart => exact ⟨0, by omega, rfl, World.ownsRow_nil _ _ _ _, grown_refl _ _⟩
  case round =>
    obtain ⟨x, hx, rfl, ho, hg⟩ := hrel
    by_cases hlt : x < n
    · obtain ⟨b, off, rfl, hb, hc0, hc1, hc2⟩ := (H.out.below (below_of_grown hg)).at_ hlt
      have HT := Lib.hid (labV_take l x (by rw [HN.out]; exact hlt))
      generalize l.getD x noLab = y at *
      obtain ⟨yk, yn, ys⟩ := y
      have HO := Lib.hid ho
      have HG := Lib.hid hg
      have hsz := hg.size
      clear ho hg
      go_wp2_with (at_builtin; refine wpList_append_own_at _ rfl (.tmp 11) (.tmp 16) _ rfl w.heap.size 38 i0 _ 3 32 Try.underlying29 hi hz0 hz1 hz2 rfl (by omega) u3 x _ rfl (HO.out.alloc _) ⟨_, 0, none⟩ 1 1 [.int .u8 yk, .int .i64 yn, .string ys] rfl rfl (new_cells3 _ _ _ _ _) (three_one _ _ _) (by simp only [maxLen]; omega) (by omega) (by simp; omega) ?_; intro v7' w4 hown4 hg4 _ hat4; have HO4 := Lib.hid hown4; have HG4 := Lib.hid hg4; clear hown4 hg4 hat4)
      go_roundw
      case rel => exact ⟨x + 1, by omega, by go_num, by rw [HT.out]; exact HO4.out, grown_join (grown_alloc HG.out _) HG4.out (.inr fun y hy => (HO.out.lt y hy).1)⟩
      case measure => simp [intOf]; omega
    · obtain rfl : x = n := by omega
      have HO := Lib.hid ho
      have HG := Lib.hid hg
      clear ho hg
      go_wp2
      go_ret
      have h2 := HO.out
      rw [List.take_of_length_le (by rw [HN.out]; exact Nat.le_refl _)] at h2
      obtain ⟨A', c', rfl⟩ := own_slice3 h2
      unfold GaveLabs
      rw [HN.out]
      exact ⟨A', c', rfl, ⟨HN.out, h2⟩, HG.out⟩
set_option maxHeartbeats 1000000 in
theorem lawRef_any (A : Option Addr) (n c : Nat) (l : List Lab) (w : World) (h : Labs w w.heap.size A n l) (hn : n ≤ 1048576) :
    Calls Try.prog 23 #[.slice A n c] w (GaveLabs 39 l w) := by
  have H := Lib.hid h
  have HN := Lib.hid h.1
  obtain ⟨i0, hi, hz0, hz1, hz2⟩ := info_parts info_rlab
  clear h
  go_enter Try.func23, Try.ntmps23
  go_wp2_with fail
  go_loopw [3, 4] (fun v i wr => ∃ x : Nat, x ≤ n ∧ i = .int .i64 x ∧ wr.ownsRow w.heap.size 39 3 v x (labV (l.take x)) ∧ w.grownBy wr none) (fun _ i _ => n - (intOf i).toNat)
  case atStart => exact ⟨0, by omega, rfl, World.ownsRow_nil _ _ _ _, grown_refl _ _⟩
  case round =>
    obtain ⟨x, hx, rfl, ho, hg⟩ := hrel
    by_cases hlt : x < n
    · obtain ⟨b, off, rfl, hb, hc0, hc1, hc2⟩ := (H.out.below (below_of_grown hg)).at_ hlt
      have HT := Lib.hid (labV_take l x (by rw [HN.out]; exact hlt))
      generalize l.getD x noLab = y at *
      obtain ⟨yk, yn, ys⟩ := y
      have HO := Lib.hid ho
      have HG := Lib.hid hg
      have hsz := hg.size
      clear ho hg
      go_wp2_with (at_builtin; refine wpList_append_own_at _ rfl (.tmp 11) (.tmp 16) _ rfl w.heap.size 39 i0 _ 3 32 Try.underlying22 hi hz0 hz1 hz2 rfl (by omega) u3 x _ rfl (HO.out.alloc _) ⟨_, 0, none⟩ 1 1 [.int .u8 yk, .int .i64 yn, .string ys] rfl rfl (new_cells3 _ _ _ _ _) (three_one _ _ _) (by simp only [maxLen]; omega) (by omega) (by simp; omega) ?_; intro v7' w4 hown4 hg4 _ hat4; have HO4 := Lib.hid hown4; have HG4 := Lib.hid hg4; clear hown4 hg4 hat4)
      go_roundw
      case rel => exact ⟨x + 1, by omega, by go_num, by rw [HT.out]; exact HO4.out, grown_join (grown_alloc HG.out _) HG4.out (.inr fun y hy => (HO.out.lt y hy).1)⟩
      case measure => simp [intOf]; omega
    · obtain rfl : x = n := by omega
      have HO := Lib.hid ho
      have HG := Lib.hid hg
      clear ho hg
      go_wp2
      go_ret
      have h2 := HO.out
      rw [List.take_of_length_le (by rw [HN.out]; exact Nat.le_refl _)] at h2
      obtain ⟨A', c', rfl⟩ := own_slice3 h2
      unfold GaveLabs
      rw [HN.out]
      exact ⟨A', c', rfl, ⟨HN.out, h2⟩, HG.out⟩

/-! ### Light -/
def LightEnd (l : List Lab) (w : World) (e : Ending) (w' : World) : Prop := ∃ b, e = .returned (.bool b) ∧ (b = true → l.length ≤ 400 ∧ ∀ i, i < l.length → (l.getD i noLab).s.size ≤ 300) ∧ w' = w
set_option maxHeartbeats 1000000 in
theorem light_any (A : Option Addr) (n c : Nat) (l : List Lab) (B : Nat) (w : World) (h : Labs w B A n l) (hn : n ≤ 9223372036854775807) :
    Calls Try.prog 7 #[.slice A n c] w (LightEnd l w) := by
  have H := Lib.hid h
  have HN := Lib.hid h.1
  clear h
  go_enter Try.func7, Try.ntmps7
  go_wp2
  go_loop [3] (fun i => ∃ x : Nat, x ≤ n ∧ x ≤ 500 ∧ i = .int .i64 (x : Int) ∧ ∀ j, j < x → (l.getD j noLab).s.size ≤ 300) (fun i => 500 - (intOf i).toNat)
  case atStart => exact ⟨0, by omega, by omega, rfl, fun j hj => by omega⟩
  case round =>
    obtain ⟨x, hx, hx5, rfl, hq⟩ := hrel
    have HQ := Lib.hid hq
    clear hq
    by_cases hlt : x < n
    · have d1 : decide ((x : Int) < (n : Int)) = true := by simp; omega
      by_cases h5 : x < 500
      · have d2 : decide ((x : Int) < 500) = true := by simp; omega
        obtain ⟨b, off, rfl, hb, hc0, hc1, hc2⟩ := H.out.at_ hlt
        have HSZ := Lib.hid (show (l.getD x noLab).s.size = (l.getD x noLab).s.size from rfl)
        generalize hy : l.getD x noLab = y at *
        have HY := Lib.hid hy
        obtain ⟨yk, yn, ys⟩ := y
        dsimp only at hc2
        clear hy hc0 hc1
        by_cases h3 : ys.size ≤ 300
        · have d3 : decide ((300 : Int) < (ys.size : Int)) = false := by simp; omega
          go_wp2
          go_round
          case rel => exact ⟨x + 1, by omega, by omega, by go_num, fun j hj => by
            by_cases e : j = x
            · subst e; rw [HY.out]; exact h3
            · exact HQ.out j (by omega)⟩
          case measure => simp [intOf]; omega
        · have d3 : decide ((300 : Int) < (ys.size : Int)) = true := by simp; omega
          go_wp2
          go_ret
          exact ⟨false, rfl, (fun h => by cases h), rfl⟩
      · have d2 : decide ((x : Int) < 500) = false := by simp; omega
        have d4 : decide ((n : Int) ≤ 400) = false := by simp; omega
        go_wp2
        go_ret
        exact ⟨false, rfl, (fun h => by cases h), rfl⟩
    · obtain rfl : n = x := by omega
      have d1 : decide ((n : Int) < (n : Int)) = false := by simp
      by_cases h4 : n ≤ 400
      · have d4 : decide ((n : Int) ≤ 400) = true := by simp; omega
        go_wp2
        go_ret
        exact ⟨true, rfl, fun _ => ⟨by rw [HN.out]; exact h4, fun i hi => HQ.out i (by rw [HN.out] at hi; exact hi)⟩, rfl⟩
      · have d4 : decide ((n : Int) ≤ 400) = false := by simp; omega
        go_wp2
        go_ret
        exact ⟨false, rfl, (fun h => by cases h), rfl⟩

/-! ### Same, Unique, All -/
def ToldD (v : Value) (w : World) (e : Ending) (w' : World) : Prop := e = .returned v ∧ ∃ m, w' = w.drewN m
theorem toldD_eq {v v' : Value} (h : v' = v) (w : World) (m : Nat) : ToldD v w (.returned v') (w.drewN m) := ⟨by rw [h], m, rfl⟩
theorem labs_eq {l l' : List Lab} (hl : l.length = l'.length) (h : ∀ i, i < l.length → l.getD i noLab = l'.getD i noLab) : l = l' := by
  apply List.ext_getElem hl
  intro i h1 h2
  have := h i h1
  simpa [List.getD, h1, h2] using this
set_option maxHeartbeats 1000000 in
theorem ref5Same_any (A A' : Option Addr) (k k' c c' : Nat) (l l' : List Lab) (B B' : Nat) (w : World) (h : Labs w B A k l) (h' : Labs w B' A' k' l') (hk : k ≤ 1048576) (hk' : k' ≤ 1048576) :
    Calls Try.prog 22 #[.slice A k c, .slice A' k' c'] w (ToldD (.bool (decide (l = l'))) w) := by
  have H := Lib.hid h
  have H' := Lib.hid h'
  have HL := Lib.hid h.1
  have HL' := Lib.hid h'.1
  clear h h'
  by_cases hnn : k = k'
  · subst hnn
    go_enter Try.func22, Try.ntmps22
    go_wp2
    go_loopw [5] (fun i wr => ∃ x m : Nat, x ≤ k ∧ i = .int .i64 x ∧ (∀ j, j < x → l.getD j noLab = l'.getD j noLab) ∧ wr = w.drewN m) (fun i _ => k - (intOf i).toNat)
    case atStart => exact ⟨0, 0, by omega, rfl, fun i hi => by omega, rfl⟩
    case round =>
      obtain ⟨x, m, hx, rfl, hq, hwr⟩ := hrel
      have HQ := Lib.hid hq
      clear hq
      by_cases hlt : x < k
      · obtain ⟨b, off, rfl, _, k0, k1, k2⟩ := (H.out.drewN m).at_ hlt
        obtain ⟨b', off', rfl, _, m0, m1, m2⟩ := (H'.out.drewN m).at_ hlt
        rw [← hwr] at k0 k1 k2 m0 m1 m2
        have HW := Lib.hid hwr
        clear hwr
        generalize h1 : l.getD x noLab = u at *
        generalize h2 : l'.getD x noLab = v at *
        have H1 := Lib.hid h1
        have H2 := Lib.hid h2
        clear h1 h2
        have hq := neq_rlab u v
        by_cases he : u = v
        · subst he
          obtain ⟨uk, un, us⟩ := u
          have hb : eqlL ⟨uk, un, us⟩ ⟨uk, un, us⟩ = true := decide_eq_true rfl
          rw [hb] at hq
          dsimp only at hq k0 k1 k2 m0 m1 m2
          go_wp2
          go_quiet (fail)
          go_wp2
          go_roundw
          case rel => exact ⟨x + 1, _, by omega, by go_num, fun j hj => by
            by_cases hjx : j = x
            · subst hjx; rw [H1.out, H2.out]
            · exact HQ.out j (by omega), by rw [HW.out, World.drewN_drewN]⟩
          case measure => simp [intOf]; omega
        · have hb : eqlL u v = false := decide_eq_false he
          rw [hb] at hq
          have HE := Lib.hid he
          clear he
          obtain ⟨uk, un, us⟩ := u
          obtain ⟨vk, vn, vs⟩ := v
          dsimp only at hq k0 k1 k2 m0 m1 m2
          go_wp2
          go_quiet (fail)
          go_wp2
          go_ret
          rw [HW.out, World.drewN_drewN]
          refine toldD_eq (congrArg Value.bool (decide_eq_false fun hh => HE.out ?_).symm) w _
          rw [← H1.out, ← H2.out, hh]
      · obtain rfl : k = x := by omega
        subst hwr
        go_wp2
        go_ret
        exact toldD_eq (congrArg Value.bool (decide_eq_true (labs_eq (by rw [HL.out, HL'.out]) fun i hi => HQ.out i (by rw [HL.out] at hi; exact hi))).symm) w m
  · have hne : ((k : Int) != (k' : Int)) = true := by simp; omega
    have HNN := Lib.hid hnn
    clear hnn
    go_enter Try.func22, Try.ntmps22
    go_wp2
    go_ret
    refine toldD_eq (congrArg Value.bool (decide_eq_false fun hh => HNN.out ?_).symm) w 0
    rw [← HL.out, ← HL'.out, hh]
end Go.Proofs.Ytfemfkiamipipaa
