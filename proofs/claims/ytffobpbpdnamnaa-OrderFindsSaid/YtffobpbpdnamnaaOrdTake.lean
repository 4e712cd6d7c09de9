/-
  Layer 4: order's Take, Rising.
-/
import Derived.Test.YtffobpbpdnamnaaSome4
namespace Go.Proofs.Ytffobpbpdnamnaa
open Go.ChangeShapes Go.WideShapes Go.ChangeAt Go.RowKit
set_option linter.unusedVariables false

theorem takeL_length (l ps : List Int) : (takeL l ps).length = ps.length := by simp [takeL]
theorem takeL_get (l ps : List Int) (i : Nat) (h : i < ps.length) : (takeL l ps).getD i 0 = l.getD (ps.getD i 0).toNat 0 := by simp [takeL, List.getD, h]
set_option maxHeartbeats 1000000 in
theorem ord4Take_any (A A' : Option Addr) (n k c c' : Nat) (l ps : List Int) (w : World) (h : Nums w w.heap.size A n l) (h' : Nums w w.heap.size A' k ps) (hn : n ≤ 1048576) (hk : k ≤ 1048576) :
    Calls Try.prog 7 #[.slice A n c, .slice A' k c'] w (GaveIntsB (takeE l ps) (allIn l.length ps) w) := by
  have H := Lib.hid h
  have H' := Lib.hid h'
  have HL := Lib.hid h.1
  have HL' := Lib.hid h'.1
  obtain ⟨Z, hZ, hmk⟩ := make_ints k hk
  have HI := Lib.hid (made_ints (w := w) hk (tabI_length k _) hZ)
  clear h h' hZ
  go_enter Try.func7, Try.ntmps7
  go_wp2
  go_loopw [7, 8, 14] (fun _ _ i wr => ∃ x : Nat, x ≤ k ∧ i = .int .i64 x ∧ OwnI wr w.heap.size (some ⟨w.heap.size, 0, none⟩) k k (tabI k fun j => if j < x then l.getD (ps.getD j 0).toNat 0 else 0) ∧ (∀ j, j < x → 0 ≤ ps.getD j 0 ∧ ps.getD j 0 < n) ∧ w.grownBy wr none) (fun _ _ i _ => k - (intOf i).toNat)
  case atStart => exact ⟨0, by omega, rfl, by rw [tabI_congr (g := fun _ => 0) fun i _ => if_neg (by omega)]; exact HI.out, fun j hj => by omega, World.grownBy_alloc _ _ _⟩
  case round =>
    obtain ⟨x, hx, rfl, ho, hq, hg⟩ := hrel
    have HQ := Lib.hid hq
    have HO := Lib.hid ho
    have HG := Lib.hid hg
    clear hq
    by_cases hlt : x < k
    · obtain ⟨b', off', rfl, _, hc'⟩ := (H'.out.grow hg).2.at_ hlt
      obtain ⟨r, er, _, hcr, hfr⟩ := ho.at_ hlt
      obtain rfl : w.heap.size = r := by injection er with er; injection er
      clear ho er
      have HXL := Lib.hid (show x < ps.length by rw [HL'.out]; exact hlt)
      generalize hp : ps.getD x 0 = p at *
      have HPX := Lib.hid hp
      clear hp
      by_cases h0 : 0 ≤ p
      · by_cases h1 : p < n
        · obtain ⟨i, rfl⟩ : ∃ i : Nat, p = i := ⟨p.toNat, by omega⟩
          obtain ⟨b, off, rfl, _, hc⟩ := (H.out.grow hg).2.at_ (k := i) (by omega)
          have HV := Lib.hid (show l.getD i 0 = l.getD i 0 from rfl)
          generalize hv : l.getD i 0 = z at *
          have HZ := Lib.hid hv
          clear hg hv
          go_wp2
          go_roundw
          case rel => exact ⟨x + 1, by omega, by go_num, by
            have h2 := HO.out.put x z
            rw [tabI_set] at h2
            rw [tabI_congr (g := fun j => if j = x then z else if j < x then l.getD (ps.getD j 0).toNat 0 else 0) fun j hj => by
              by_cases e : j = x
              · subst e; rw [if_pos (by omega), if_pos rfl, HPX.out, Int.toNat_natCast, HZ.out]
              · by_cases e2 : j < x
                · rw [if_pos (by omega), if_neg e, if_pos e2]
                · rw [if_neg (by omega), if_neg e, if_neg e2]]
            exact h2, fun j hj => by
            by_cases hjx : j = x
            · subst hjx; rw [HPX.out]; omega
            · exact HQ.out j (by omega), grown_put HG.out (.inr (Nat.le_refl _)) _⟩
          case measure => simp [intOf]; omega
        · have HF := Lib.hid (allIn_not (n := l.length) HXL.out (by rw [HPX.out, HL.out]; omega))
          clear hg
          go_wp2
          go_ret2
          unfold GaveIntsB takeE
          rw [HF.out]
          exact ⟨none, 0, rfl, OwnI.nil _ _, HG.out⟩
      · have HF := Lib.hid (allIn_not (n := l.length) HXL.out (by rw [HPX.out]; omega))
        clear hg
        go_wp2
        go_ret2
        unfold GaveIntsB takeE
        rw [HF.out]
        exact ⟨none, 0, rfl, OwnI.nil _ _, HG.out⟩
    · obtain rfl : k = x := by omega
      have HF := Lib.hid (allIn_of (n := l.length) (ps := ps) (fun x hx => by rw [HL.out]; exact HQ.out x (by rw [HL'.out] at hx; exact hx)))
      clear hg ho
      go_wp2
      go_ret2
      have h2 := HO.out
      have e2 : (tabI k fun j => if j < k then l.getD (ps.getD j 0).toNat 0 else 0) = takeL l ps := ints_eq (by rw [tabI_length, takeL_length, HL'.out]) fun i hi => by
        rw [tabI_length] at hi
        rw [tabI_get _ _ _ hi, if_pos hi, takeL_get _ _ _ (by rw [HL'.out]; exact hi)]
      rw [e2] at h2
      unfold GaveIntsB takeE
      rw [HF.out, if_pos rfl, takeL_length, HL'.out]
      exact ⟨_, _, rfl, h2, HG.out⟩

/-! ### Rising, by whatever numbers -/
/-- r things from the first one on come each behind the one ahead, by K. -/
def IsRiseK (K : Int → Int) (l : List Int) (r : Nat) : Prop := IsRise (l.map K) r
def RiseEndK (K : Int → Int) (l : List Int) (w : World) (e : Ending) (w' : World) : Prop := ∃ r : Nat, IsRiseK K l r ∧ e = .returned (.int .i64 (r : Int)) ∧ ∃ m, w' = w.drewN m
theorem map_getD (K : Int → Int) (l : List Int) (i : Nat) (h : i < l.length) : (l.map K).getD i 0 = K (l.getD i 0) := by simp [List.getD, h]
theorem cmpI_lt {a b : Int} : cmpI a b < 0 ↔ a < b := by unfold cmpI; split <;> (try split) <;> omega
theorem cmpI_le {a b : Int} : cmpI a b ≤ 0 ↔ a ≤ b := by unfold cmpI; split <;> (try split) <;> omega
theorem cmpI_eq {a b : Int} : cmpI a b = 0 ↔ a = b := by unfold cmpI; split <;> (try split) <;> omega
theorem cmpI_in (a b : Int) : -1 ≤ cmpI a b ∧ cmpI a b ≤ 1 := by unfold cmpI; split <;> (try split) <;> omega
set_option maxHeartbeats 1000000 in
theorem ord4Rising_any (g : Value) (f : FuncId) (K : Int → Int) (A : Option Addr) (n c : Nat) (l : List Int) (B : Nat) (w : World) (hG : GivenCmp g f K) (h : Nums w B A n l) (hn : n ≤ 1048576) :
    Calls Try.prog 19 #[.slice A n c, g] w (RiseEndK K l w) := by
  have H := Lib.hid h
  have HL := Lib.hid h.1
  have HG := Lib.hid hG
  clear h hG
  have HX := Lib.hid (map_getD K l)
  by_cases h0 : n = 0
  · subst h0
    have d1 : decide ((0 : Int) < 0) = false := by simp
    go_enter Try.func19, Try.ntmps19
    go_wp2_with (go_at_call 24; refine (HG.out.2 _).mono ?_; rintro e w' ⟨rfl, rfl⟩)
    refine wp_loop_rounds 1 ?_
    rw [rounds_succ]
    go_wp2
    go_quiet (fail)
    go_wp2
    go_ret
    exact ⟨0, .inl ⟨by rw [List.length_map]; exact HL.out, rfl⟩, rfl, _, rfl⟩
  · go_enter Try.func19, Try.ntmps19
    go_wp2_with (go_at_call 24; refine (HG.out.2 _).mono ?_; rintro e w' ⟨rfl, rfl⟩)
    all_goals
      go_loopw [5] (fun i wr => ∃ x m : Nat, 0 < x ∧ x ≤ n ∧ i = .int .i64 x ∧ (∀ j, 0 < j → j < x → K (l.getD (j - 1) 0) < K (l.getD j 0)) ∧ wr = w'.drewN m) (fun i _ => n - (intOf i).toNat)
      case atStart => exact ⟨1, 0, by omega, by omega, by first | rfl | (congr 1; omega), fun j h1 h2 => by omega, rfl⟩
      case round =>
        obtain ⟨x, m, hx0, hx, rfl, hq, hwr⟩ := hrel
        have HQ := Lib.hid hq
        clear hq
        have d1 : decide ((0 : Int) < (x : Int)) = true := by simp <;> omega
        by_cases hlt : x < n
        · obtain ⟨y, rfl⟩ : ∃ y, x = y + 1 := ⟨x - 1, by omega⟩
          have d1' : decide ((0 : Int) < (y : Int) + 1) = true := by simp <;> omega
          have hd : decide ((y : Int) + 1 < (n : Int)) = true := by simp; omega
          obtain ⟨b, off, rfl, _, hc⟩ := (H.out.drewN m).2 (by omega)
          have g1 := hc y (by omega)
          have g2 := hc (y + 1) hlt
          dsimp only at g1 g2
          rw [← hwr] at g1 g2
          have HW := Lib.hid hwr
          clear hwr hc
          generalize h1 : l.getD y 0 = v at *
          generalize h2 : l.getD (y + 1) 0 = v' at *
          have H1 := Lib.hid h1
          have H2 := Lib.hid h2
          clear h1 h2
          have s1 : ((y : Int) + 1 - 1) = (y : Int) := by omega
          have hw1 : IntKind.i64.wrap ((y : Int) + 1 - 1) = (y : Int) := by rw [s1]; exact IntWalk.i64_in _ (by omega)
          have hw2 : IntKind.i64.wrap (y : Int) = (y : Int) := IntWalk.i64_in _ (by omega)
          have HCM := Lib.hid (HG.out.1.2 v v')
          have hpl := HG.out.1.1
          unfold Plain at hpl
          by_cases he : K v < K v'
          · have hb : decide (cmpI (K v) (K v') < 0) = true := decide_eq_true (cmpI_lt.2 he)
            have HE := Lib.hid he
            clear he
            go_wp2
            go_quiet (exact Calls.quiet_of_same (HCM.out _))
            go_wp2
            go_roundw
            case rel => exact ⟨y + 2, _, by omega, by omega, by go_num, fun j h1 h2 => by
              by_cases e : j = y + 1
              · subst e; rw [Nat.add_sub_cancel, H1.out, H2.out]; exact HE.out
              · exact HQ.out j h1 (by omega), by rw [HW.out, World.drewN_drewN]⟩
            case measure => simp [intOf]; omega
          · have hb : decide (cmpI (K v) (K v') < 0) = false := decide_eq_false fun h => he (cmpI_lt.1 h)
            have HE := Lib.hid he
            clear he
            go_wp2
            go_quiet (exact Calls.quiet_of_same (HCM.out _))
            go_wp2
            go_ret
            refine ⟨y + 1, .inr ⟨by omega, by rw [List.length_map, HL.out]; omega, fun i h1 h2 => by rw [HX.out _ (by rw [HL.out]; omega), HX.out _ (by rw [HL.out]; omega)]; exact HQ.out i h1 h2, fun h => ?_⟩, rfl, _, by rw [HW.out, World.drewN_drewN]⟩
            rw [List.length_map] at h
            rw [Nat.add_sub_cancel, HX.out _ (by omega), HX.out _ h, H1.out, H2.out]
            exact Int.not_lt.2 HE.out
        · obtain rfl : n = x := by omega
          have hd : decide ((n : Int) < (n : Int)) = false := by simp
          have HW := Lib.hid hwr
          clear hwr
          go_wp2
          go_quiet (fail)
          go_wp2
          go_ret
          exact ⟨n, .inr ⟨hx0, by rw [List.length_map, HL.out]; exact Nat.le_refl _, fun i h1 h2 => by rw [HX.out _ (by rw [HL.out]; omega), HX.out _ (by rw [HL.out]; omega)]; exact HQ.out i h1 h2, fun h => by rw [List.length_map, HL.out] at h; omega⟩, rfl, _, by rw [HW.out, World.drewN_drewN]⟩
end Go.Proofs.Ytffobpbpdnamnaa
