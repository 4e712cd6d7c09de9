/-
  Layer 4: the reference's Sort, walked.
-/
import Derived.Test.YtffobpbpdnamnaaRef4e
import Derived.Deep.CutBlock
namespace Go.Proofs.Ytffobpbpdnamnaa
open Go.ChangeShapes Go.WideShapes Go.ChangeAt Go.RowKit
set_option linter.unusedVariables false

def valI (l : List Int) (i : Nat) : Int := l.getD i 0
theorem own_empty {w : World} {base g : Nat} (h : w.heap[g]? = some (.cells #[] 3 (0, 0))) (hb : base ≤ g) : OwnI w base (some ⟨g, 0, none⟩) 0 0 [] :=
  (show Whole w g [] from h).own hb (by simp)
theorem nums_one {w : World} {g : Nat} {z : Int} (h : w.cell? ⟨g, 0, none⟩ = some (.int .i64 z)) : Nums w w.heap.size (some ⟨g, 0, none⟩) 1 [z] :=
  ⟨rfl, fun _ => ⟨g, 0, rfl, World.block_lt_of_cell? w _ h, fun k hk => by
    obtain rfl : k = 0 := by omega
    exact h⟩⟩
theorem one_fresh (w : World) (z : Int) : (w.alloc (.cells #[.int .i64 z] 3)).cell? ⟨w.heap.size, 0, none⟩ = some (.int .i64 z) := by
  rw [cell_of_row _ _ _ _ _ _ (heap_alloc_new w _)]; rfl
theorem new_dr1 (w : World) (o : Obj) : (w.alloc o).drew.heap[w.heap.size]? = some o := heap_alloc_new w o
theorem new_dr2 (w : World) (o o' : Obj) : ((w.alloc o).alloc o').drew.heap[w.heap.size]? = some o := (Below.heap_alloc _ o' _ (by simp)).trans (heap_alloc_new w o)
theorem new_dr3 (w : World) (o o' : Obj) : ((w.alloc o').alloc o).drew.heap[w.heap.size + 1]? = some o := by
  have h := heap_alloc_new (w.alloc o') o
  rw [show (w.alloc o').heap.size = w.heap.size + 1 by simp] at h
  exact h
theorem one_dr1 (w : World) (z : Int) : (w.alloc (.cells #[.int .i64 z] 3)).drew.cell? ⟨w.heap.size, 0, none⟩ = some (.int .i64 z) := one_fresh w z
theorem one_dr2 (w : World) (z : Int) (o : Obj) : ((w.alloc (.cells #[.int .i64 z] 3)).alloc o).drew.cell? ⟨w.heap.size, 0, none⟩ = some (.int .i64 z) := cell_al (one_fresh w z)
theorem one_dr3 (w : World) (z : Int) (o : Obj) : ((w.alloc o).alloc (.cells #[.int .i64 z] 3)).drew.cell? ⟨w.heap.size + 1, 0, none⟩ = some (.int .i64 z) := by
  have h := one_fresh (w.alloc o) z
  rw [show (w.alloc o).heap.size = w.heap.size + 1 by simp] at h
  exact h
theorem insert_places (p : List Nat) (x y : Nat) : (placesI p).take y ++ [(x : Int)] ++ (placesI p).drop y = placesI (p.take y ++ x :: p.drop y) := by unfold placesI; simp
theorem own_as {w : World} {base n n' c : Nat} {A : Option Addr} {xs ys : List Int} (hn : n = n') (hx : xs = ys) (h : OwnI w base A n c xs) : OwnI w base A n' c ys := by subst hn; subst hx; exact h
set_option maxHeartbeats 4000000 in
theorem ref4Sort_any (A : Option Addr) (n c : Nat) (l : List Int) (w : World) (h : Nums w w.heap.size A n l) (hn : n ≤ 1048576) :
    Calls Try.prog 14 #[.slice A n c] w (Sorted4K id l w) := by
  have H := Lib.hid h
  have HL := Lib.hid h.1
  clear h
  go_enter Try.func14, Try.ntmps14
  go_wp2
  go_loopw [3, 4] (fun v i wr => ∃ (x : Nat) (p : List Nat) (A' : Option Addr) (c' : Nat), x ≤ n ∧ i = .int .i64 x ∧ v = .slice A' x c' ∧ OwnI wr w.heap.size A' x c' (placesI p) ∧ InOrder (valI l) x p ∧ w.grownBy wr none) (fun _ i _ => n - (intOf i).toNat)
  case atStart => exact ⟨0, [], none, 0, by omega, rfl, rfl, OwnI.nil _ _, InOrder.none _, grown_refl _ _⟩
  case round =>
    obtain ⟨x, p, A', c', hx, rfl, rfl, ho, hp, hg⟩ := hrel
    obtain ⟨w1, hw1⟩ : ∃ w1, w1 = wr := ⟨_, rfl⟩
    subst hw1
    have HO := Lib.hid ho
    have HG := Lib.hid hg
    have HP := Lib.hid hp
    have HPL := Lib.hid hp.length
    have hsz := hg.size
    clear ho hp
    by_cases hlt : x < n
    · obtain ⟨b, off, rfl, _, hc⟩ := (H.out.grow hg).2 (by omega)
      have HC := Lib.hid hc
      have g0 : w1.cell? ⟨b, off + x, none⟩ = some (.int .i64 (l.getD x 0)) := hc x hlt
      generalize hv : l.getD x 0 = v at *
      have HV := Lib.hid hv
      clear hg hc hv
      go_upto_block 2 with (fail)
      go_cut [5] (fun k wk => ∃ y m : Nat, y ≤ x ∧ k = .int .i64 (y : Int) ∧ GoesAt (valI l) x p y ∧ wk = w1.drewN m)
      case first =>
        go_wp2
        go_loopw [5] (fun k wk => ∃ y m : Nat, y ≤ x ∧ k = .int .i64 y ∧ (∀ j, y ≤ j → j < x → v < valI l (p.getD j 0)) ∧ wk = w1.drewN m) (fun k _ => (intOf k).toNat)
        case atStart => exact ⟨x, 0, by omega, rfl, fun j h1 h2 => by omega, rfl⟩
        case round =>
          obtain ⟨y, m, hy, rfl, hq, hwk⟩ := hrel
          have HQ := Lib.hid hq
          clear hq
          have g1 : (w1.drewN m).cell? _ = _ := g0
          rw [← hwk] at g1
          by_cases hy0 : 0 < y
          · obtain ⟨z, rfl⟩ : ∃ z, y = z + 1 := ⟨y - 1, by omega⟩
            have hd : decide ((0 : Int) < (z : Int) + 1) = true := by simp <;> omega
            obtain ⟨r, er, _, hc2, _⟩ := HO.out.at_ (i := z) (by omega)
            rw [placesI_get (by rw [HPL.out]; omega)] at hc2
            subst er
            have hpl := HP.out.get_lt (i := z) (by omega)
            have hc3 : w1.cell? ⟨b, off + p.getD z 0, none⟩ = some (.int .i64 (l.getD (p.getD z 0) 0)) := HC.out _ (by omega)
            have g2 : (w1.drewN m).cell? _ = _ := hc2
            have g3 : (w1.drewN m).cell? _ = _ := hc3
            rw [← hwk] at g2 g3
            have HVZ := Lib.hid (show valI l (p.getD z 0) = l.getD (p.getD z 0) 0 from rfl)
            generalize l.getD (p.getD z 0) 0 = u at *
            generalize hpz : p.getD z 0 = pz at *
            have HPZ := Lib.hid hpz
            clear hpz
            have HW := Lib.hid hwk
            clear hwk hc2 hc3 g0
            have s1 : ((z : Int) + 1 - 1) = (z : Int) := by omega
            have hw1 : IntKind.i64.wrap ((z : Int) + 1 - 1) = (z : Int) := by rw [s1]; exact IntWalk.i64_in _ (by omega)
            have hw2 : IntKind.i64.wrap (z : Int) = (z : Int) := IntWalk.i64_in _ (by omega)
            by_cases he : v < u
            · have hb : decide (v < u) = true := by simp [he]
              go_wp2
              go_quiet (fail)
              go_wp2
              go_roundw
              case rel => exact ⟨z, _, by omega, by go_num, fun j h1 h2 => by
                by_cases e : j = z
                · subst e; rw [HPZ.out, HVZ.out]; exact he
                · exact HQ.out j (by omega) h2, by rw [HW.out, World.drewN_drewN]⟩
              case measure => simp [intOf]; try omega
            · have hb : decide (v < u) = false := by simp; omega
              have HGO : Hid (GoesAt (valI l) x p (z + 1)) := Lib.hid ⟨by rw [HPL.out]; omega, fun _ => by
                rw [Nat.add_sub_cancel, HPZ.out, HVZ.out]
                show u ≤ l.getD x 0
                rw [HV.out]
                exact Int.not_lt.1 he, fun j h1 h2 => by
                show l.getD x 0 < _
                rw [HV.out]
                exact HQ.out j h1 (by rw [← HPL.out]; exact h2)⟩
              clear he
              go_wp2
              go_quiet (fail)
              go_wp2
              go_meet
              exact ⟨z + 1, _, by omega, rfl, HGO.out, by rw [HW.out, World.drewN_drewN]⟩
          · obtain rfl : y = 0 := by omega
            have HGO : Hid (GoesAt (valI l) x p 0) := Lib.hid ⟨Nat.zero_le _, fun h => absurd h (by omega), fun j h1 h2 => by
              show l.getD x 0 < _
              rw [HV.out]
              exact HQ.out j h1 (by rw [← HPL.out]; exact h2)⟩
            have HW := Lib.hid hwk
            clear hwk
            go_wp2
            go_quiet (fail)
            go_wp2
            go_meet
            exact ⟨0, _, by omega, rfl, HGO.out, by rw [HW.out, World.drewN_drewN]⟩
      case rest =>
        obtain ⟨y, m, hy, rfl, hgo, hwc⟩ := hcut
        have HO2 : Hid (OwnI wc w.heap.size A' x c' (placesI p)) := Lib.hid (by rw [hwc]; exact HO.out)
        have HGQ : Hid (w.grownBy wc none) := Lib.hid (by rw [hwc]; exact grown_drewN HG.out _)
        have HIN := Lib.hid (InOrder.insert HP.out hgo)
        clear hwc hgo g0
        obtain ⟨A2, c2, hs2, hn2, he2⟩ := own_head HO2.out (k := y) (by omega)
        obtain ⟨A3, c3, hs3, hn3, he3⟩ := own_tail HO2.out (k := y) (by omega)
        have HE2 := Lib.hid he2
        have HE3 := Lib.hid he3
        have HQS : Hid (∀ (w' : World), wc.grownBy w' none → Nums w' w'.heap.size A2 y ((placesI p).take y) ∧ Nums w' w'.heap.size A3 (x - y) ((placesI p).drop y)) := Lib.hid fun w' hg => ⟨hn2.grow hg, hn3.grow hg⟩
        clear hn2 hn3 he2 he3
        go_wp2
        have i1 : (0 : Int) ≤ (y : Int) := by omega
        have i2 : (y : Int) ≤ (x : Int) := by omega
        have hyx : y + 1 + (x - y) = x + 1 := by omega
        go_region_held3 (fun w' => True) (trivial) (first
          | (refine step_append_ints rfl (.tmp 33) (.tmp 36) rfl (by rfl) (by rfl) (base := wc.heap.size) (xs := []) (own_empty (by first | exact new_dr1 _ _ | exact new_dr2 _ _ _ | exact new_dr3 _ _ _) (by first | omega | (simp; done) | (simp; omega))) (HQS.out _ (by repeat (first | exact grown_refl _ _ | refine grown_drew ?_ | refine grown_alloc ?_ _))).1 HE2.out (by first | omega | (simp; done) | (simp; omega)) (by omega) ?_; intro B1 k1 w4 ho4 hg4; have hgc4 : Hid (wc.grownBy w4 none) := Lib.hid (grown_join (by repeat (first | exact grown_refl _ _ | refine grown_drew ?_ | refine grown_alloc ?_ _)) hg4.out (.inr fun b hb => by simp at hb; omega)); have hz4 := hgc4.out.size)
          | (refine step_append_ints rfl (.tmp 37) (.tmp 39) rfl (by rfl) (by rfl) (base := wc.heap.size) (xs := (placesI p).take y) (ys := [(x : Int)]) (OwnI.grow (own_as (by omega) (by simp) ho4.out) (by repeat (first | exact grown_refl _ _ | refine grown_drew ?_ | refine grown_alloc ?_ _))) (nums_one (by first | exact one_fresh _ _ | exact (hg4.out.cell_far ⟨_, 0, none⟩ (by simp <;> omega) (by simp)).trans (by first | exact one_dr1 _ _ | exact one_dr2 _ _ _ | exact one_dr3 _ _ _))) (fun e => by cases e) (by first | omega | (simp; done) | (simp; omega)) (by omega) ?_; intro B2 k2 w5 ho5 hg5; have hgc5 : Hid (wc.grownBy w5 none) := Lib.hid (grown_join (by repeat (first | exact hgc4.out | refine grown_drew ?_ | refine grown_alloc ?_ _)) hg5.out (.inr fun b hb => (ho4.out.2.lt b (by rw [map_own]; exact hb)).1)); have hz5 := hgc5.out.size)
          | (refine step_append_ints rfl (.tmp 40) (.tmp 43) rfl (by rfl) (by rfl) (base := wc.heap.size) (xs := (placesI p).take y ++ [(x : Int)]) ho5.out (HQS.out _ hgc5.out).2 HE3.out (by first | omega | (simp; done) | (simp; omega)) (by omega) ?_; intro B3 k3 w6 ho6 hg6; have hgc6 : Hid (wc.grownBy w6 none) := Lib.hid (grown_join hgc5.out hg6.out (.inr fun b hb => (ho5.out.2.lt b (by rw [map_own]; exact hb)).1))))
        all_goals
          go_wp2
          go_roundw
          case rel => exact ⟨x + 1, p.take y ++ x :: p.drop y, B3, k3, by omega, by go_num, rfl, OwnI.lower (own_as (by omega) (insert_places p x y) ho6.out) HGQ.out.size, HIN.out, grown_join HGQ.out hgc6.out (.inr (by simp))⟩
          case measure => simp [intOf]; omega
    · obtain rfl : n = x := by omega
      clear hg
      go_wp2
      go_ret
      have e : (placesI p).length = n := by rw [placesI_length, HPL.out]
      exact ⟨p, by rw [HL.out]; exact HP.out, by unfold GaveInts; rw [e]; exact ⟨_, _, rfl, HO.out, HG.out⟩⟩
end Go.Proofs.Ytffobpbpdnamnaa
