/-
  Layer 7: the reference's Permute, Join.
-/
import Derived.Test.YtkpfhjjojchdlaaRef7c
namespace Go.Proofs.Ytkpfhjjojchdlaa
open Go.ChangeShapes Go.WideShapes Go.ChangeAt Go.RowKit
set_option linter.unusedVariables false
set_option maxRecDepth 100000

theorem perm_not {s t : List Int} (h : ¬ (rightS s = true ∧ t.length = s.length ∧ axesP s.length t s.length)) : permB s t = false := by
  cases hb : permB s t with
  | false => rfl
  | true =>
    unfold permB at hb
    simp only [Bool.and_eq_true, decide_eq_true_eq] at hb
    exact absurd ⟨hb.1.1, hb.1.2, hb.2⟩ h
theorem perm_yes {s t : List Int} (h1 : rightS s = true) (h2 : t.length = s.length) (h3 : axesP s.length t s.length) : permB s t = true := by
  unfold permB
  simp only [Bool.and_eq_true, decide_eq_true_eq]
  exact ⟨⟨h1, h2⟩, h3⟩
def pickL (s t : List Int) : List Int := t.map fun a => s.getD a.toNat 0
theorem pick_snoc (s t : List Int) (x : Nat) (h : x < t.length) : pickL s (t.take (x + 1)) = pickL s (t.take x) ++ [s.getD (t.getD x 0).toNat 0] := by
  unfold pickL
  rw [List.take_succ_eq_append_getElem h, List.map_append]
  simp [List.getD, h]
theorem gave_row {zs : List Int} {b : Bool} {w w' : World} {v : Value} {n : Nat} (e : zs.length = n) (hb : b = true) (h : w'.ownsRow w.heap.size 3 1 v n (intV zs)) (hg : w.grownBy w' none) : GaveIntsB zs b w (.returned (.tuple #[v, .bool true])) w' := by
  subst hb; subst e
  obtain ⟨A, c, rfl⟩ := own_slice1 h
  exact ⟨A, c, rfl, ⟨rfl, h⟩, hg⟩
set_option maxHeartbeats 2000000 in
theorem ref7Permute_any (A A' : Option Addr) (n c n' c' : Nat) (s t : List Int) (w : World) (h : Nums w w.heap.size A n s) (h' : Nums w w.heap.size A' n' t) (hn : n ≤ 1048576) (hn' : n' ≤ 1048576) :
    Calls Try.prog 57 #[.slice A n c, .slice A' n' c'] w (GaveIntsB (permL s t) (permB s t) w) := by
  have HR := Lib.hid (ref7Right_any A n c _ s w h hn)
  have H := Lib.hid h
  have H' := Lib.hid h'
  have HL := Lib.hid h.1
  have HL' := Lib.hid h'.1
  obtain ⟨i0, hi, hz0, hz1, hz2⟩ := info_parts info_int
  clear h h'
  have HPN := Lib.hid (show permB s t = false → permL s t = [] from fun hb => by unfold permL; rw [hb]; rfl)
  cases hr : rightS s with
  | false =>
    rw [hr] at HR
    have HNB := Lib.hid (show permB s t = false from perm_not (by rw [hr]; rintro ⟨h, _⟩; cases h))
    have HNL := Lib.hid (HPN.out HNB.out)
    clear hr
    go_enter Try.func57, Try.ntmps57
    go_wp2_with fail
    refine HR.out.mono ?_
    rintro e w1 ⟨rfl, rfl⟩
    go_wp2_with fail
    go_ret2
    exact gave_noneB HNL.out HNB.out (grown_refl _ _)
  | true =>
    rw [hr] at HR
    have HRT := Lib.hid hr
    clear hr
    by_cases hnn : n' = n
    · subst hnn
      have d0 : ((n' : Int) != (n' : Int)) = false := by simp
      go_enter Try.func57, Try.ntmps57
      go_wp2_with fail
      refine HR.out.mono ?_
      rintro e w1 ⟨rfl, rfl⟩
      go_wp2_with fail
      go_loopw [6, 7] (fun v i wr => ∃ x : Nat, x ≤ n' ∧ i = .int .i64 x ∧ wr.ownsRow w1.heap.size 3 1 v x (intV (pickL s (t.take x))) ∧ axesP n' t x ∧ w1.grownBy wr none) (fun _ i _ => n' - (intOf i).toNat)
      case atStart => exact ⟨0, by omega, rfl, World.ownsRow_nil _ _ _ _, fun j hj => by omega, grown_refl _ _⟩
      case round =>
        obtain ⟨x, hx, rfl, ho, hq, hg⟩ := hrel
        have HQ := Lib.hid hq
        have HO := Lib.hid ho
        have HG := Lib.hid hg
        clear hq ho
        by_cases hlt : x < n'
        · obtain ⟨b', off', rfl, _, hc'⟩ := (H'.out.grow hg).2.at_ hlt
          have HT := Lib.hid (pick_snoc s t x (by rw [HL'.out]; exact hlt))
          have HTC := Lib.hid (fun j (hj : j < n') => show wr.cell? ⟨b', off' + j, none⟩ = some (.int .i64 (t.getD j 0)) by
            obtain ⟨b2, off2, e, _, h2⟩ := (H'.out.grow hg).2.at_ hj
            injection e with e
            injection e with e1 e2
            subst e1; subst e2
            exact h2)
          generalize hp : t.getD x 0 = p at *
          have HPX := Lib.hid hp
          clear hp
          by_cases hin : 0 ≤ p ∧ p < n'
          · obtain ⟨i, rfl⟩ : ∃ i : Nat, p = i := ⟨p.toNat, by omega⟩
            obtain ⟨b, off, rfl, _, hc⟩ := (H.out.grow hg).2.at_ (k := i) (by omega)
            rw [Int.toNat_natCast] at HT
            generalize hz : s.getD i 0 = z at *
            have hsz := hg.size
            have HI := Lib.hid hin
            have d1 : decide ((i : Int) < 0) = false := decide_eq_false (by omega)
            have d2 : decide ((n' : Int) ≤ (i : Int)) = false := decide_eq_false (by omega)
            have d3 : decide (n' ≤ i) = false := decide_eq_false (by omega)
            have hin2 : i < n' := by omega
            have HCZ := Lib.hid hc
            have HCX := Lib.hid hc'
            clear hg hin hz
            obtain ⟨w2, hw2⟩ : ∃ w2, w2 = wr := ⟨_, rfl⟩
            subst hw2
            go_wp2
            go_loopw [8] (fun k wk => ∃ y m : Nat, y ≤ x ∧ k = .int .i64 y ∧ (∀ j, j < y → t.getD j 0 ≠ (i : Int)) ∧ wk = w2.drewN m) (fun k _ => x - (intOf k).toNat)
            case atStart => exact ⟨0, 0, by omega, rfl, fun j hj => by omega, rfl⟩
            case round =>
              obtain ⟨y, m, hy, rfl, hqy, hwk⟩ := hrel
              have HQY := Lib.hid hqy
              clear hqy
              by_cases hyx : y < x
              · have c1 : (w2.drewN m).cell? _ = _ := HTC.out y (by omega)
                have c2 : (w2.drewN m).cell? _ = _ := HCX.out
                rw [← hwk] at c1 c2
                have HTY := Lib.hid (show t.getD y 0 = t.getD y 0 from rfl)
                obtain ⟨u, hu⟩ : ∃ u, u = t.getD y 0 := ⟨_, rfl⟩
                rw [← hu] at c1
                have HU := Lib.hid hu
                have HW := Lib.hid hwk
                clear hu hwk
                by_cases he : u = (i : Int)
                · subst he
                  have hb : ((i : Int) == (i : Int)) = true := by simp
                  have HNB := Lib.hid (show permB s t = false from perm_not (by
                    rintro ⟨_, _, h⟩
                    rw [HL.out] at h
                    exact (h x hlt).2 y hyx (by rw [← HU.out, HPX.out])))
                  have HNL := Lib.hid (HPN.out HNB.out)
                  go_wp2
                  go_quiet (fail)
                  go_wp2
                  go_ret2
                  exact gave_noneB HNL.out HNB.out (by rw [HW.out]; exact grown_drewN (grown_drewN HG.out _) _)
                · have hb : (u == (i : Int)) = false := by simp; exact he
                  have HE := Lib.hid he
                  clear he
                  go_wp2
                  go_quiet (fail)
                  go_wp2
                  go_roundw
                  case rel => exact ⟨y + 1, _, by omega, by go_num, fun j hj => by
                    by_cases hjy : j = y
                    · subst hjy; rw [← HU.out]; exact HE.out
                    · exact HQY.out j (by omega), by rw [HW.out, World.drewN_drewN]⟩
                  case measure => simp [intOf]; omega
              · obtain rfl : y = x := by omega
                have c2 : (w2.drewN m).cell? _ = _ := HCX.out
                have c3 : (w2.drewN m).cell? _ = _ := HCZ.out
                have HO2 : Hid ((w2.drewN m).ownsRow w1.heap.size 3 1 u6 y (intV (pickL s (t.take y)))) := Lib.hid HO.out
                have HG2 : Hid (w1.grownBy (w2.drewN m) none) := Lib.hid (grown_drewN HG.out _)
                rw [← hwk] at c2 c3 HO2 HG2
                have hsz2 := HG2.out.size
                clear hwk
                go_wp2_with (at_builtin; refine wpList_append_own_at _ rfl (.tmp 53) (.tmp 61) _ rfl w1.heap.size 3 i0 _ 1 8 Try.underlying22 hi hz0 hz1 hz2 rfl (by omega) u6 y _ rfl (HO2.out.alloc _) ⟨_, 0, none⟩ 1 1 [.int .i64 z] rfl rfl (new_cell1 _ _ _) (by simp [Value.oneCell']) (by simp only [maxLen]; omega) (by omega) (by simp; omega) ?_; intro v7' w4 hown4 hg4 _ hat4; have HO4 := Lib.hid hown4; have HG4 := Lib.hid hg4; clear hown4 hg4 hat4)
                go_roundw
                case rel => exact ⟨y + 1, by omega, by go_num, by rw [HT.out, intV_snoc]; exact HO4.out, fun j hj => by
                  by_cases hjx : j = y
                  · subst hjx; rw [HPX.out]; exact ⟨HI.out, fun l hl => HQY.out l hl⟩
                  · exact HQ.out j (by omega), grown_join (grown_alloc HG2.out _) HG4.out (.inr fun y hy => (HO2.out.lt y hy).1)⟩
                case measure => simp [intOf]; omega
          · have HNB := Lib.hid (show permB s t = false from perm_not (by
              rintro ⟨_, _, h⟩
              rw [HL.out] at h
              have := (h x hlt).1
              rw [HPX.out] at this
              exact hin this))
            have HNL := Lib.hid (HPN.out HNB.out)
            clear hg
            by_cases h0 : p < 0
            · have d1 : decide (p < 0) = true := decide_eq_true h0
              clear hin
              go_wp2
              go_ret2
              exact gave_noneB HNL.out HNB.out HG.out
            · have d1 : decide (p < 0) = false := decide_eq_false h0
              have d2 : decide ((n' : Int) ≤ p) = true := decide_eq_true (by omega)
              clear hin
              go_wp2
              go_ret2
              exact gave_noneB HNL.out HNB.out HG.out
        · obtain rfl : x = n' := by omega
          clear hg
          have HYB := Lib.hid (perm_yes (s := s) (t := t) HRT.out (by rw [HL.out, HL'.out]) (by rw [HL.out]; exact HQ.out))
          have HYL := Lib.hid (show permL s t = pickL s (t.take x) by
            unfold permL
            rw [if_pos HYB.out, List.take_of_length_le (by rw [HL'.out]; exact Nat.le_refl _)]
            rfl)
          go_wp2
          go_ret2
          rw [HYL.out, HYB.out]
          exact gave_row (by simp [pickL, HL'.out]) rfl HO.out HG.out
    · have d0 : ((n' : Int) != (n : Int)) = true := by simp; omega
      have HNB := Lib.hid (show permB s t = false from perm_not (by rintro ⟨_, h, _⟩; rw [HL.out, HL'.out] at h; exact hnn h))
      have HNL := Lib.hid (HPN.out HNB.out)
      clear hnn
      go_enter Try.func57, Try.ntmps57
      go_wp2_with fail
      refine HR.out.mono ?_
      rintro e w1 ⟨rfl, rfl⟩
      go_wp2_with fail
      go_ret2
      exact gave_noneB HNL.out HNB.out (grown_refl _ _)
theorem join_not {a b : List Int} (h : ¬ (rightS a = true ∧ rightS b = true ∧ a.length = b.length ∧ joinP a b a.length)) : joinB a b = false := by
  cases hb : joinB a b with
  | false => rfl
  | true =>
    unfold joinB at hb
    simp only [Bool.and_eq_true, decide_eq_true_eq] at hb
    exact absurd ⟨hb.1.1.1, hb.1.1.2, hb.1.2, hb.2⟩ h
theorem join_yes {a b : List Int} (h1 : rightS a = true) (h2 : rightS b = true) (h3 : a.length = b.length) (h4 : joinP a b a.length) : joinB a b = true := by
  unfold joinB
  simp only [Bool.and_eq_true, decide_eq_true_eq]
  exact ⟨⟨⟨h1, h2⟩, h3⟩, h4⟩
def zipL (a b : List Int) (x : Nat) : List Int := (List.range x).map fun i => joinV (a.getD i 0) (b.getD i 0)
theorem zip_snoc (a b : List Int) (x : Nat) : zipL a b (x + 1) = zipL a b x ++ [joinV (a.getD x 0) (b.getD x 0)] := by unfold zipL; rw [List.range_succ, List.map_append]; rfl
end Go.Proofs.Ytkpfhjjojchdlaa
