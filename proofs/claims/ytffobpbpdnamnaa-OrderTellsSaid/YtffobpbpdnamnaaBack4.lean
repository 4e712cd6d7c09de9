/-
  Layer 4: order's Back.
-/
import Derived.Test.YtffobpbpdnamnaaRepeat
namespace Go.Proofs.Ytffobpbpdnamnaa
open Go.ChangeShapes Go.WideShapes Go.ChangeAt Go.RowKit
set_option linter.unusedVariables false

set_option maxHeartbeats 1000000 in
theorem ord4Back_any (A : Option Addr) (k c : Nat) (ps : List Int) (w : World) (h : Nums w w.heap.size A k ps) (hk : k ≤ 1048576) :
    Calls Try.prog 9 #[.slice A k c] w (GaveIntsB (backE ps) (okBack ps) w) := by
  have H := Lib.hid h
  have HL := Lib.hid h.1
  have HREP := Lib.hid (fun w1 b hc hb => repeat4_one b 0 (-1) k w1 hc hb hk)
  have hcell : (w.alloc (.cells #[.int .i64 (-1)] 3)).cell? ⟨w.heap.size, 0, none⟩ = some (.int .i64 (-1)) := by
    rw [cell_of_row _ _ _ _ _ _ (heap_alloc_new w _)]; rfl
  have HCELL := Lib.hid hcell
  clear h hcell
  go_enter Try.func9, Try.ntmps9
  go_wp2_with (go_at_call 23; refine (HREP.out _ _ HCELL.out (by simp)).mono ?_; rintro e w1 ⟨rfl, hw1, hg1⟩; have HW1 := Lib.hid hw1; have HG1 := Lib.hid hg1; clear hw1 hg1)
  have HG0 := Lib.hid (grown_join (World.grownBy_alloc w (.cells #[.int .i64 (-1)] 3) none) HG1.out (.inr fun x hx => by simp at hx))
  have HW0 : Hid (Whole w1 (w.heap.size + 1) (tabI k (posB ps 0))) := Lib.hid (by
    have h1 := HW1.out
    rw [tabI_congr (f := fun _ => -1) (g := posB ps 0) fun i _ => rfl] at h1
    simpa using h1)
  clear HW1 HG1 HCELL HREP
  obtain ⟨g, hgg⟩ : ∃ g, g = w.heap.size + 1 := ⟨_, rfl⟩
  rw [← hgg] at HW0 ⊢
  have hgw : w.heap.size ≤ g := by omega
  clear hgg
  go_loopw [5, 6, 13] (fun _ _ i wr2 => ∃ x : Nat, x ≤ k ∧ i = .int .i64 x ∧ Whole wr2 g (tabI k (posB ps x)) ∧ Good ps x ∧ w.grownBy wr2 none) (fun _ _ i _ => k - (intOf i).toNat)
  case atStart => exact ⟨0, by omega, rfl, HW0.out, fun i hi => by omega, HG0.out⟩
  case round =>
    obtain ⟨x, hx, rfl, ho, hgd, hg⟩ := hrel
    have HO := Lib.hid ho
    have HGD := Lib.hid hgd
    have HG3 := Lib.hid hg
    by_cases hlt : x < k
    · obtain ⟨b, off, rfl, _, hc⟩ := (H.out.grow hg).2.at_ hlt
      have HXL := Lib.hid (show x < ps.length by rw [HL.out]; exact hlt)
      clear hgd hg
      generalize hp : ps.getD x 0 = p at *
      have HP := Lib.hid hp
      clear hp
      by_cases h0 : 0 ≤ p
      · by_cases h1 : p < k
        · obtain ⟨q, rfl⟩ : ∃ q : Nat, p = q := ⟨p.toNat, by omega⟩
          have hc2 := ho.cell (i := q) (by rw [tabI_length]; omega)
          have hf2 := ho.free q
          rw [tabI_get _ _ _ (by omega)] at hc2
          have HPC := Lib.hid (posB_cases ps x q)
          have HST := Lib.hid (show posB ps (x + 1) q = (x : Int) by unfold posB; rw [if_pos HP.out])
          clear ho
          by_cases h2 : 0 ≤ posB ps x q
          · have HF := Lib.hid (not_good HXL.out (by
              rintro ⟨_, h3⟩
              rcases HPC.out with ⟨e, _⟩ | ⟨_, j, hj, e⟩
              · omega
              · exact h3 j hj (by rw [HP.out, e])))
            generalize posB ps x q = v at *
            go_wp2
            go_ret2
            unfold GaveIntsB backE
            rw [HF.out]
            exact ⟨none, 0, rfl, OwnI.nil _ _, HG3.out⟩
          · have HN := Lib.hid (show ∀ j, j < x → ps.getD j 0 ≠ (q : Int) by
              rcases HPC.out with ⟨_, h3⟩ | ⟨h3, _⟩
              · exact h3
              · omega)
            have HSET := Lib.hid (show (tabI k (posB ps x)).set q (x : Int) = tabI k (posB ps (x + 1)) by
              rw [tabI_set]
              refine tabI_congr fun j hj => ?_
              show _ = if ps.getD x 0 = (j : Int) then (x : Int) else posB ps x j
              rw [HP.out]
              by_cases e : j = q
              · subst e; rw [if_pos rfl, if_pos rfl]
              · rw [if_neg e, if_neg (by omega)])
            generalize posB ps x q = v at *
            go_wp2
            go_roundw
            case rel => exact ⟨x + 1, by omega, by go_num, by rw [← HSET.out]; exact HO.out.put q x, fun i hi => by
              by_cases e : i = x
              · subst e
                rw [HP.out, HL.out]
                exact ⟨⟨by omega, by omega⟩, fun j hj => HN.out j hj⟩
              · exact HGD.out i (by omega), grown_put HG3.out (.inr hgw) _⟩
            case measure => simp [intOf]; omega
        · have HF := Lib.hid (not_good HXL.out (by rw [HP.out, HL.out]; omega))
          clear ho
          go_wp2
          go_ret2
          unfold GaveIntsB backE
          rw [HF.out]
          exact ⟨none, 0, rfl, OwnI.nil _ _, HG3.out⟩
      · have HF := Lib.hid (not_good HXL.out (by rw [HP.out]; omega))
        clear ho
        go_wp2
        go_ret2
        unfold GaveIntsB backE
        rw [HF.out]
        exact ⟨none, 0, rfl, OwnI.nil _ _, HG3.out⟩
    · obtain rfl : k = x := by omega
      have HF := Lib.hid (show okBack ps = true from decide_eq_true (by rw [HL.out]; exact HGD.out))
      clear ho hgd hg
      go_wp2
      go_ret2
      unfold GaveIntsB backE
      rw [HF.out, if_pos rfl, tabI_length, HL.out]
      have h2 := HO.out.own hgw (by rw [tabI_length]; exact hk)
      rw [tabI_length] at h2
      exact ⟨_, _, rfl, h2, HG3.out⟩
end Go.Proofs.Ytffobpbpdnamnaa
