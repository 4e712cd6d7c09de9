/-
  Layer 4: the law OrderBack, walked.
-/
import Derived.Test.YtffobpbpdnamnaaFinds4
namespace Go.Proofs.Ytffobpbpdnamnaa
open Go.ChangeShapes Go.WideShapes Go.ChangeAt Go.RowKit
set_option linter.unusedVariables false

/-- the sort without a cmp: as they stand. -/
theorem sort4_free {w : World} {A : Option Addr} {n c : Nat} {l : List Int} (h : Nums w w.heap.size A n l) (hn : n ≤ 1048576) :
    Calls Try.prog 12 #[.slice A n c, .nilFunc] w fun e w2 => ∃ A2 c2, e = .returned (.slice A2 n c2) ∧ OwnI w2 w.heap.size A2 n c2 (placesI (List.range n)) ∧ w.grownBy w2 none := by
  refine (ord4Sort_any _ 30 (fun _ => 0) A n c l w (.inl rfl) givenCmp_nil h hn).mono ?_
  rintro e w2 ⟨p, hp, A2, c2, rfl, ho, hg2⟩
  obtain rfl : p = List.range n := hp.one (by rw [h.1]; exact InOrder.range fun _ _ _ _ => rfl)
  have hl : (placesI (List.range n)).length = n := by rw [placesI_length, List.length_range]
  rw [hl] at ho ⊢
  exact ⟨A2, c2, rfl, ho, hg2⟩
theorem range_get {n i : Nat} (h : i < n) : (placesI (List.range n)).getD i 0 = (i : Int) := by
  rw [placesI_get (by rw [List.length_range]; exact h)]
  simp [List.getD, h]
theorem rise_free {l : List Int} {r : Nat} (h : IsRiseK (fun _ => 0) l r) : (l.length = 0 → r = 0) ∧ (0 < l.length → r = 1) := by
  unfold IsRiseK at h
  rcases h with ⟨h1, h2⟩ | ⟨h1, h2, h3, h4⟩
  · rw [List.length_map] at h1; omega
  · rw [List.length_map] at h2 h4
    refine ⟨fun h => by omega, fun h => ?_⟩
    rcases Nat.lt_or_ge 1 r with h5 | h5
    · have := h3 1 (by omega) h5
      rw [map_getD _ _ _ (by omega), map_getD _ _ _ (by omega)] at this
      exact absurd this (by omega)
    · omega
set_option maxRecDepth 100000 in
set_option maxHeartbeats 8000000 in
theorem orderBack_walk (A : Option Addr) (n c : Nat) (l : List Int) (w : World) (h : Nums w w.heap.size A n l) (hn : n ≤ 9223372036854775807) (hnc : n ≤ c) :
    Calls Try.prog 5 #[.slice A n c] w fun e w' => e = .returned (.bool true) ∧ Below w.heap.size w w' := by
  have NL := Lib.hid h
  have HL := Lib.hid h.1
  clear h
  by_cases hb : n ≤ 300
  · go_enter Try.func5, Try.ntmps5
    go_wp2_with fail
    refine (knows4_any _).mono ?_
    rintro e w1 ⟨rfl, hg⟩
    have NL := Lib.hid (NL.out.grow hg)
    have HG := Lib.hid hg
    clear hg
    go_wp2_with fail
    refine (sort4_told (c := c) NL.out (by omega) _ (grown_refl _ _)).mono ?_
    rintro e w2 ⟨p, A2, c2, rfl, hp, ho, hg⟩
    have HP := Lib.hid hp
    have N1 := Lib.hid ho.nums
    have NL := Lib.hid (NL.out.grow hg)
    have HG := Lib.hid (grown_join HG.out hg (.inr (by simp)))
    clear hp ho hg
    go_wp2_with fail
    refine (ord4Back_any A2 n c2 (placesI p) _ N1.out (by omega)).mono ?_
    unfold GaveIntsB
    rw [okBack_order HP.out, backE_length HP.out]
    rintro e w3 ⟨A3, c3, rfl, ho, hg⟩
    have N2 := Lib.hid ho.nums
    have N1 := Lib.hid (N1.out.grow hg)
    have NL := Lib.hid (NL.out.grow hg)
    have HG := Lib.hid (grown_join HG.out hg (.inr (by simp)))
    clear ho hg
    go_wp2_with fail
    go_loopw [6] (fun i wr => ∃ x m : Nat, x ≤ n ∧ i = .int .i64 (x : Int) ∧ wr = w3.drewN m) (fun i _ => n - (intOf i).toNat)
    case atStart => exact ⟨0, 0, by omega, rfl, rfl⟩
    case round =>
      obtain ⟨x, m, hx, rfl, hwr⟩ := hrel
      by_cases hlt : x < n
      · obtain ⟨b2, o2, rfl, _, hc2⟩ := (N1.out.drewN m).2 (by omega)
        obtain ⟨b3, o3, rfl, _, hc3⟩ := (N2.out.drewN m).2 (by omega)
        obtain ⟨b1, o1, rfl, _, hc1⟩ := (NL.out.drewN m).2 (by omega)
        have hqx := HP.out.get_lt hlt
        have HBK := Lib.hid (back_order HP.out hlt)
        have g2x := hc2 x hlt
        dsimp only at g2x
        rw [placesI_get (by rw [HP.out.length]; exact hlt)] at g2x
        have g3 := hc3 (p.getD x 0) hqx
        dsimp only at g3
        rw [HBK.out] at g3
        have g1x := hc1 (p.getD x 0) hqx
        dsimp only at g1x
        rw [← hwr] at g2x g3 g1x
        have d0 : ((x : Int) != (x : Int)) = false := by simp
        by_cases hx0 : 0 < x
        · obtain ⟨y, rfl⟩ : ∃ y, x = y + 1 := ⟨x - 1, by omega⟩
          have hqy := HP.out.get_lt (show y < n by omega)
          have HST := Lib.hid (order_steps HP.out (i := y + 1) (by omega) hlt)
          rw [Nat.add_sub_cancel] at HST
          have g2y := hc2 y (by omega)
          dsimp only at g2y
          rw [placesI_get (by rw [HP.out.length]; omega)] at g2y
          have g1y := hc1 (p.getD y 0) hqy
          dsimp only at g1y
          rw [← hwr] at g2y g1y
          unfold valI at HST
          generalize l.getD (p.getD y 0) 0 = u at *
          generalize l.getD (p.getD (y + 1) 0) 0 = v at *
          generalize p.getD y 0 = qy at *
          generalize p.getD (y + 1) 0 = qx at *
          have HW := Lib.hid hwr
          clear hc1 hc2 hc3 hwr HBK
          have d1 : decide ((0 : Int) < (y : Int) + 1) = true := by simp <;> omega
          have s1 : ((y : Int) + 1 - 1) = (y : Int) := by omega
          have hw1 : IntKind.i64.wrap ((y : Int) + 1 - 1) = (y : Int) := by rw [s1]; exact IntWalk.i64_in _ (by omega)
          have hw2 : IntKind.i64.wrap (y : Int) = (y : Int) := IntWalk.i64_in _ (by omega)
          have i1 : (0 : Int) ≤ (qy : Int) := by omega
          have i2 : (qy : Int) < (n : Int) := by omega
          have i3 : (0 : Int) ≤ (qx : Int) := by omega
          have i4 : (qx : Int) < (n : Int) := by omega
          have d2 : decide (v < u) = false := by have := HST.out.1; exact decide_eq_false this
          by_cases he : u = v
          · have d3 : (u == v) = true := by simp [he]
            have d4 : decide ((qx : Int) < (qy : Int)) = false := by
              have := HST.out.2
              refine decide_eq_false fun h => this ⟨he, by omega⟩
            have d5 : decide (qx < qy) = false := by
              have := HST.out.2
              refine decide_eq_false fun h => this ⟨he, h⟩
            clear he
            go_wp2
            go_quiet (fail)
            go_wp2
            go_roundw
            case rel => exact ⟨y + 1 + 1, _, by omega, by go_num, by rw [HW.out, World.drewN_drewN]⟩
            case measure => simp [intOf]; omega
          · have d3 : (u == v) = false := by simp [he]
            clear he
            go_wp2
            go_quiet (fail)
            go_wp2
            go_roundw
            case rel => exact ⟨y + 1 + 1, _, by omega, by go_num, by rw [HW.out, World.drewN_drewN]⟩
            case measure => simp [intOf]; omega
        · obtain rfl : x = 0 := by omega
          rw [Nat.add_zero] at g2x
          generalize p.getD 0 0 = qx at *
          have HW := Lib.hid hwr
          clear hc1 hc2 hc3 hwr HBK g1x
          have i3 : (0 : Int) ≤ (qx : Int) := by omega
          have i4 : (qx : Int) < (n : Int) := by omega
          go_wp2
          go_quiet (fail)
          go_wp2
          go_roundw
          case rel => exact ⟨1, _, by omega, by go_num, by rw [HW.out, World.drewN_drewN]⟩
          case measure => simp [intOf]; omega
      · obtain rfl : n = x := by omega
        have NL := Lib.hid (NL.out.grow (grown_drewN (grown_refl _ none) m))
        have HG := Lib.hid (grown_drewN HG.out m)
        rw [← hwr] at NL HG
        clear hwr N1 N2 HP
        obtain ⟨w4, hw4⟩ : ∃ w4, w4 = wr := ⟨_, rfl⟩
        subst hw4
        have d0 : decide ((n : Int) < (n : Int)) = false := by simp
        go_wp2_with fail
        refine (sort4_free (c := c) NL.out (by omega)).mono ?_
        rintro e w5 ⟨A5, c5, rfl, ho, hg⟩
        have N5 := Lib.hid ho.nums
        have NL := Lib.hid (NL.out.grow hg)
        have HG := Lib.hid (grown_join HG.out hg (.inr (by simp)))
        clear ho hg
        go_wp2_with fail
        go_loop [8] (fun i => ∃ x : Nat, x ≤ n ∧ i = .int .i64 (x : Int)) (fun i => n - (intOf i).toNat)
        case atStart => exact ⟨0, by omega, rfl⟩
        case round =>
          obtain ⟨x, hx, rfl⟩ := hrel
          by_cases hlt : x < n
          · obtain ⟨b5, o5, rfl, _, hc5⟩ := N5.out.2.at_ hlt
            rw [range_get hlt] at hc5
            go_wp2
            go_round
            case rel => exact ⟨x + 1, by omega, by go_num⟩
            case measure => simp [intOf]; omega
          · obtain rfl : n = x := by omega
            go_wp2_with fail
            refine (ord4Merge_any _ _ (fun _ => 0) A A n n c c l l _ givenCmp_nil NL.out NL.out (by omega) hnc hnc).mono ?_
            have hml : (mrgK (fun _ => 0) l l).length = n + n := by rw [mrgK_length, HL.out]
            obtain ⟨q, hq⟩ : ∃ q, q = n + n := ⟨_, rfl⟩
            unfold GaveInts
            rw [hml, ← hq]
            have hq2 : ((q : Int) == 2 * (n : Int)) = true := by simp; omega
            have hq3 : (q : Int) = 2 * (n : Int) := by omega
            have HQ3 := Lib.hid hq3
            clear hml hq hq3
            rintro e w6 ⟨A6, c6, rfl, ho, hg⟩
            have NL := Lib.hid (NL.out.grow hg)
            have HG := Lib.hid (grown_join HG.out hg (.inr (by simp)))
            clear ho hg N5
            go_wp2_with fail
            refine (ord4Find_any _ _ (fun _ => 0) A n c l 7 _ _ givenCmp_nil NL.out (fun _ _ _ _ => Int.le_refl _) (by omega)).mono ?_
            rintro e w7 ⟨t, bb, hat, hbb, rfl, rfl⟩
            obtain rfl : t = 0 := by
              rcases Nat.eq_zero_or_pos t with h | h
              · exact h
              · have h2 : (0 : Int) < 0 := hat.2.1 0 h
                omega
            rw [HL.out] at hbb
            clear hat
            have HCR := Lib.hid (ord4Rising_any _ _ (fun _ => 0) A n c l _ _ givenCmp_nil NL.out (by omega))
            by_cases hn0 : 0 < n
            · obtain rfl : bb = true := hbb.2 ⟨hn0, rfl⟩
              have d2 : decide ((0 : Int) < (n : Int)) = true := by simp; omega
              have d3 : decide (0 < n) = true := by simp [hn0]
              have d4 : (1 : Int) ≤ (n : Int) := by omega
              clear hbb
              go_wp2_with fail
              refine HCR.out.mono ?_
              rintro e w8 ⟨r, hr, rfl, q8, rfl⟩
              obtain rfl : r = 1 := (rise_free hr).2 (by rw [HL.out]; exact hn0)
              clear hr
              have HG := Lib.hid (grown_drewN HG.out q8)
              go_wp2_with fail
              go_ret
              exact ⟨rfl, below_of_grown HG.out⟩
            · obtain rfl : n = 0 := by omega
              obtain rfl : q = 0 := by have := HQ3.out; omega
              obtain rfl : bb = false := by
                cases bb
                · rfl
                · exact absurd (hbb.1 rfl).1 (by omega)
              clear hbb
              go_wp2_with fail
              refine HCR.out.mono ?_
              rintro e w8 ⟨r, hr, rfl, q8, rfl⟩
              obtain rfl : r = 0 := (rise_free hr).1 HL.out
              clear hr
              have HG := Lib.hid (grown_drewN HG.out q8)
              go_wp2_with fail
              go_ret
              exact ⟨rfl, below_of_grown HG.out⟩
  · have hx : (300 : Int) < (n : Int) := by omega
    clear hb
    go_enter Try.func5, Try.ntmps5
    go_wp2_with (go_at_call 6; refine (knows4_any _).mono ?_; rintro e w1 ⟨rfl, hg⟩; have HG1 := Lib.hid hg; clear hg)
    go_ret
    exact ⟨rfl, below_of_grown HG1.out⟩
end Go.Proofs.Ytffobpbpdnamnaa
