/-
  Layer 4: order's Ranks.
-/
import Derived.Test.YtffobpbpdnamnaaRank4
namespace Go.Proofs.Ytffobpbpdnamnaa
open Go.ChangeShapes Go.WideShapes Go.ChangeAt Go.RowKit
set_option linter.unusedVariables false

/-- the sort's result, its length written out. -/
theorem sort4_told {w : World} {A : Option Addr} {n c : Nat} {l : List Int} (h : Nums w w.heap.size A n l) (hn : n ≤ 1048576) (w' : World) (hg : w.grownBy w' none) :
    Calls Try.prog 12 #[.slice A n c, .func (.func 13) #[] #[]] w' fun e w2 => ∃ p A2 c2, e = .returned (.slice A2 n c2) ∧ InOrder (valI l) n p ∧ OwnI w2 w'.heap.size A2 n c2 (placesI p) ∧ w'.grownBy w2 none := by
  refine (ord4Sort_any _ 13 id A n c l w' (.inr rfl) givenCmp_cmp (h.grow hg) hn).mono ?_
  rintro e w2 ⟨p, hp, A2, c2, rfl, ho, hg2⟩
  have hl : (placesI p).length = n := by rw [placesI_length, hp.length, h.1]
  rw [hl] at ho ⊢
  rw [h.1] at hp
  exact ⟨p, A2, c2, rfl, hp, ho, hg2⟩
/-- what stands where the loop begins. -/
def Ranked (w : World) (n : Nat) (l : List Int) (v5 v6 v7 : Value) (w' : World) : Prop :=
  ∃ (p : List Nat) (g : Nat) (A2 : Option Addr) (c2 : Nat), v5 = .slice (some ⟨g, 0, none⟩) n n ∧ v6 = .int .i64 0 ∧ v7 = .slice A2 n c2 ∧ InOrder (valI l) n p ∧ Whole w' g (tabI n fun _ => 0) ∧ Run w' (fun b _ => b ≠ g) A2 (placesI p) ∧ w.heap.size ≤ g ∧ w.grownBy w' none
theorem run_own {w : World} {base n c g : Nat} {A : Option Addr} {zs : List Int} (h : OwnI w base A n c zs) (hb : g < base) : Run w (fun b _ => b ≠ g) A zs := fun h0 => by
  obtain ⟨k, rfl, hb2, _, _, _⟩ := own_form h.2 (by rw [← h.1]; exact h0)
  obtain ⟨b, o, e, hlt, hc⟩ := h.nums.2 (by rw [← h.1]; exact h0)
  injection e with e; injection e with e1 e2
  subst e1
  exact ⟨k, o, by rw [e2], hlt, by omega, fun j hj => hc j (by rw [← h.1]; exact hj)⟩
theorem run_old {w : World} {base n c : Nat} {A : Option Addr} {zs : List Int} (h : OwnI w base A n c zs) (o : Obj) : Run (w.alloc o) (fun b _ => b ≠ w.heap.size) A zs := fun h0 => by
  obtain ⟨b, of, e, hlt, hc⟩ := h.nums.2 (by rw [← h.1]; exact h0)
  exact ⟨b, of, e, by simp; omega, by omega, fun j hj => (World.cell?_of_block (Below.heap_alloc w o b hlt)).trans (hc j (by rw [← h.1]; exact hj))⟩
set_option maxHeartbeats 2000000 in
theorem ord4Ranks_any (A : Option Addr) (n c : Nat) (l : List Int) (w : World) (h : Nums w w.heap.size A n l) (hn : n ≤ 1048576) :
    Calls Try.prog 15 #[.slice A n c, .func (.func 13) #[] #[]] w (GaveInts (ranksE l) w) := by
  have H := Lib.hid h
  have HL := Lib.hid h.1
  obtain ⟨Z, hZ, hmk⟩ := make_ints n hn
  have HZ := Lib.hid hZ
  have HSO := Lib.hid (sort4_told (c := c) h hn)
  clear h hZ
  go_enter Try.func15, Try.ntmps15
  go_upto_region 2 with (go_at_call 24; refine (some4_func _ _).mono ?_; rintro e w' ⟨rfl, rfl⟩)
  go_cut [5, 6, 7] (fun v5 v6 v7 wc => Ranked w' n l v5 v6 v7 wc)
  case first =>
    go_region_held3 (fun w' => True) (trivial) ((go_at_call 12; refine (HSO.out _ (by repeat (first | exact grown_refl _ _ | refine grown_drew ?_ | refine grown_alloc ?_ _))).mono ?_; rintro e w2 ⟨p, A2, c2, rfl, hp, ho, hg⟩; have HP := Lib.hid hp; have HO := Lib.hid ho; have HG := Lib.hid hg; clear hp ho hg))
    all_goals go_wp2
    all_goals go_meet
    · exact ⟨p, w'.heap.size, A2, c2, rfl, rfl, rfl, HP.out, (show Whole (w'.alloc (.cells Z 3)).drew _ _ from Whole.fresh w' HZ.out).grown HG.out (by simp), run_own HO.out (by simp), Nat.le_refl _, grown_join (by repeat (first | exact grown_refl _ _ | refine grown_drew ?_ | refine grown_alloc ?_ _)) HG.out (.inr (by simp))⟩
    · exact ⟨p, w2.heap.size, A2, c2, rfl, rfl, rfl, HP.out, Whole.fresh w2 HZ.out, run_old HO.out _, HG.out.size, grown_alloc (grown_join (by repeat (first | exact grown_refl _ _ | refine grown_drew ?_ | refine grown_alloc ?_ _)) HG.out (.inr (by simp))) _⟩
  case rest =>
    obtain ⟨p, g, A2, c2, rfl, rfl, rfl, hp, hwh, hrn, hbg, hgr⟩ := hcut
    have HP := Lib.hid hp
    have HWH := Lib.hid hwh
    have HRN := Lib.hid hrn
    have HGR := Lib.hid hgr
    have HPL := Lib.hid hp.length
    have hsz := hgr.size
    clear hp hwh hrn hgr hmk HSO
    go_wp2
    go_loopw [6, 8, 9, 20] (fun v6 _ _ i wr => ∃ x r : Nat, x ≤ n ∧ i = .int .i64 (x : Int) ∧ v6 = .int .i64 (r : Int) ∧ (x = 0 → r = 0) ∧ (0 < x → r = rk l (l.getD (p.getD (x - 1) 0) 0) l.length) ∧ Whole wr g (rankTab l p x) ∧ wc.grownBy wr (some g)) (fun _ _ _ i _ => n - (intOf i).toNat)
    case atStart => exact ⟨0, 0, by omega, rfl, rfl, fun _ => rfl, fun h => absurd h (by omega), by rw [rankTab_none, HL.out]; exact HWH.out, grown_refl _ _⟩
    case round =>
      obtain ⟨x, r, hx, rfl, rfl, hr0, hr1, hw, hg⟩ := hrel
      have HR0 := Lib.hid hr0
      have HR1 := Lib.hid hr1
      have HW := Lib.hid hw
      have HG := Lib.hid hg
      clear hr0 hr1
      by_cases hlt : x < n
      · obtain ⟨bp, op, rfl, hbp, hbne, hcp⟩ := HRN.out (by rw [placesI_length, HPL.out]; omega)
        have pcell : ∀ i, i < n → wr.cell? ⟨bp, op + i, none⟩ = some (.int .i64 (p.getD i 0 : Nat)) := fun i hi => by
          rw [hg.cell_far ⟨bp, op + i, none⟩ hbp (by intro e; injection e with e; exact hbne e), hcp i (by rw [placesI_length, HPL.out]; exact hi), placesI_get (by rw [HPL.out]; exact hi)]
        obtain ⟨b, off, rfl, _, hc⟩ := ((H.out.below (below_of_grown HGR.out)).below (below_of_grown_row hg (B := w'.heap.size) hsz (fun y hy => by injection hy with hy; omega))).2 (by omega)
        have hqx := HP.out.get_lt hlt
        have gx := pcell x hlt
        have gv := hc (p.getD x 0) hqx
        have hst := hw.cell (i := p.getD x 0) (by unfold rankTab; rw [tabI_length, HL.out]; exact hqx)
        have hfr := hw.free (p.getD x 0)
        have HSET := Lib.hid (rankTab_set (l := l) (p := p) (x := x) (by rw [HPL.out]; exact hlt))
        generalize hold : (rankTab l p x).getD (p.getD x 0) 0 = old at hst
        clear hold
        dsimp only at gv
        have HPO : Hid (InOrder (valI l) l.length p) := Lib.hid (by rw [HL.out]; exact HP.out)
        by_cases hx0 : 0 < x
        · obtain ⟨y, rfl⟩ : ∃ y, x = y + 1 := ⟨x - 1, by omega⟩
          have gy := pcell y (by omega)
          have hqy := HP.out.get_lt (show y < n by omega)
          have gu := hc (p.getD y 0) hqy
          dsimp only at gu
          have HNX := Lib.hid (fun h => rank_next (l := l) (p := p) (x := y) HPO.out (by rw [HL.out]; omega) h)
          have hr := HR1.out (by omega)
          rw [Nat.add_sub_cancel] at hr
          generalize hu : l.getD (p.getD y 0) 0 = u at *
          generalize hv : l.getD (p.getD (y + 1) 0) 0 = v at *
          generalize p.getD y 0 = q0 at *
          generalize hq1 : p.getD (y + 1) 0 = q1 at *
          have HR := Lib.hid hr
          have HV := Lib.hid hv
          have HQ1 := Lib.hid hq1
          have d1 : decide ((0 : Int) < (y : Int) + 1) = true := by simp <;> omega
          have s1 : ((y : Int) + 1 - 1) = (y : Int) := by omega
          have hw1 : IntKind.i64.wrap ((y : Int) + 1 - 1) = (y : Int) := by rw [s1]; exact IntWalk.i64_in _ (by omega)
          have hw2 : IntKind.i64.wrap (y : Int) = (y : Int) := IntWalk.i64_in _ (by omega)
          have i1 : (0 : Int) ≤ (q0 : Int) := by omega
          have i2 : (q0 : Int) < (n : Int) := by omega
          have i3 : (0 : Int) ≤ (q1 : Int) := by omega
          have i4 : (q1 : Int) < (n : Int) := by omega
          clear pcell hc hcp hw hg hr hu hv hq1
          by_cases he : u = v
          · have hb : (cmpI u v != 0) = false := by rw [bne_eq_false_iff_eq]; exact cmpI_eq.2 he
            have HE := Lib.hid he
            clear he
            go_wp2
            go_quiet ((go_at_call 13; exact Calls.quiet_of_same (cmp4_any _ _ _)))
            go_wp2
            go_roundw
            case rel => exact ⟨y + 1 + 1, r, by omega, by go_num, rfl, fun h => absurd h (by omega), fun _ => by rw [Nat.add_sub_cancel, HQ1.out, HV.out, HR.out, HE.out], by rw [← HSET.out, ← HE.out, ← HR.out]; exact HW.out.put q1 r, grown_put (grown_drewN HG.out _) (.inl rfl) _⟩
            case measure => simp [intOf]; omega
          · have hb : (cmpI u v != 0) = true := by rw [bne_iff_ne]; exact fun h => he (cmpI_eq.1 h)
            have HE := Lib.hid he
            have HRR := Lib.hid (HNX.out he)
            clear he
            have hrb : r ≤ n := by rw [HR.out]; have := rk_le l u l.length; rw [HL.out] at this ⊢; exact this
            go_wp2
            go_quiet ((go_at_call 13; exact Calls.quiet_of_same (cmp4_any _ _ _)))
            go_wp2
            go_roundw
            case rel => exact ⟨y + 1 + 1, r + 1, by omega, by go_num, by go_num, fun h => absurd h (by omega), fun _ => by rw [Nat.add_sub_cancel, HQ1.out, HV.out, HRR.out, HR.out], by
              have h2 := HW.out.put q1 (rk l v l.length : Int)
              rw [HSET.out, HRR.out, ← HR.out] at h2
              rw [Int.natCast_add] at h2
              exact h2, grown_put (grown_drewN HG.out _) (.inl rfl) _⟩
            case measure => simp [intOf]; omega
        · obtain rfl : x = 0 := by omega
          obtain rfl : r = 0 := HR0.out rfl
          rw [Nat.add_zero] at gx
          have HF := Lib.hid (rank_first (l := l) (p := p) HPO.out (by rw [HL.out]; omega))
          generalize hv : l.getD (p.getD 0 0) 0 = v at *
          generalize hq1 : p.getD 0 0 = q1 at *
          have HV := Lib.hid hv
          have HQ1 := Lib.hid hq1
          have i3 : (0 : Int) ≤ (q1 : Int) := by omega
          have i4 : (q1 : Int) < (n : Int) := by omega
          clear pcell hc hcp hw hg hv hq1
          go_wp2
          go_quiet (fail)
          go_wp2
          go_roundw
          case rel => exact ⟨1, 0, by omega, by go_num, rfl, fun h => absurd h (by omega), fun _ => by rw [Nat.sub_self, HQ1.out, HV.out, HF.out], by
            have h2 := HW.out.put q1 (rk l v l.length : Int)
            rw [HSET.out, HF.out] at h2
            exact h2, grown_put (grown_drewN HG.out _) (.inl rfl) _⟩
          case measure => simp [intOf]; omega
      · obtain rfl : n = x := by omega
        clear hw hg
        go_wp2
        go_ret
        have h1 := HW.out.own hbg (by unfold rankTab; rw [tabI_length, HL.out]; exact hn)
        have e : rankTab l p n = ranksE l := by rw [← HL.out]; exact rankTab_all (by rw [HL.out]; exact HP.out)
        have e2 : (ranksE l).length = n := by unfold ranksE; rw [tabI_length, HL.out]
        rw [e, e2] at h1
        unfold GaveInts
        rw [e2]
        exact ⟨_, _, rfl, h1, grown_of_below ((below_of_grown HGR.out).trans (below_of_grown_row HG.out hsz (fun y hy => by injection hy with hy; omega)))⟩
end Go.Proofs.Ytffobpbpdnamnaa
