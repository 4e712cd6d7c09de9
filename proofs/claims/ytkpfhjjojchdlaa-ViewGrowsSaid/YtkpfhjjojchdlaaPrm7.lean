/-
  Layer 7, the program's own: Permute, Join.
-/
import Derived.Test.YtkpfhjjojchdlaaIns7
namespace Go.Proofs.Ytkpfhjjojchdlaa
open Go.ChangeShapes Go.WideShapes Go.ChangeAt Go.RowKit
set_option linter.unusedVariables false
set_option maxRecDepth 100000

theorem make_shape (m : Nat) (hm : m ≤ 1048576) : ∃ Z : Array Value, Z.toList = intV (tabI7 m fun _ => 0) ∧ ∀ W : World, (Instr.makeSlice 27 (.int .i64 (m : Int)) (.int .i64 (m : Int))).run Try.prog W = .ok (.slice (some ⟨W.heap.size, 0, none⟩) m m) (W.alloc (.cells Z 3)) := by
  obtain ⟨i0, hi, hz0, hz1, hz2⟩ := info_parts info_int
  refine ⟨madeCells (Value.int .i64 0).cells (m * i0.size), ?_, fun W => ?_⟩
  · rw [hz1]
    apply List.ext_getElem
    · simp [madeCells, intV, tabI7]
    · intro i h1 h2
      simp [madeCells, Nat.mod_one, intV, tabI7, Value.cells]
  · have h := run_make (P := Try.prog) W 27 3 i0 _ Try.underlying27 hi hz0 .i64 .i64 (m : Int) (m : Int) (by omega) (by omega) (by rw [hz2]; omega) (by omega)
    simpa using h
/-- the first k of these, then noughts. -/
def doneE (n : Nat) (f : Nat → Int) (k : Nat) : List Int := tabI7 n fun j => if j < k then f j else 0
theorem done_length (n : Nat) (f : Nat → Int) (k : Nat) : (doneE n f k).length = n := tabI_length7 _ _
theorem done_start (n : Nat) (f : Nat → Int) : tabI7 n (fun _ => 0) = doneE n f 0 := tabI_congr7 fun i _ => (if_neg (by omega)).symm
theorem done_put (n : Nat) (f : Nat → Int) (k : Nat) : (doneE n f k).set k (f k) = doneE n f (k + 1) := by
  unfold doneE
  rw [tabI_set7]
  refine tabI_congr7 fun i hi => ?_
  by_cases e : i = k
  · rw [if_pos e, if_pos (by omega), e]
  · rw [if_neg e]
    by_cases h : i < k
    · rw [if_pos h, if_pos (by omega)]
    · rw [if_neg h, if_neg (by omega)]
theorem done_end (n : Nat) (f : Nat → Int) : doneE n f n = tabI7 n f := tabI_congr7 fun i hi => if_pos hi
theorem perm_tab {s t : List Int} {n : Nat} (hn : t.length = n) (h : permB s t = true) : permL s t = tabI7 n fun j => s.getD (t.getD j 0).toNat 0 := by
  subst hn
  unfold permL
  rw [if_pos h]
  refine ints_eqW (by rw [List.length_map, tabI_length7]) fun i hi => ?_
  rw [List.length_map] at hi
  rw [tabI_get7 _ _ _ hi]
  simp [List.getD, hi]
theorem join_tab {s t : List Int} {n : Nat} (hn : s.length = n) (h : joinB s t = true) : joinL s t = tabI7 n fun j => joinV (s.getD j 0) (t.getD j 0) := by
  subst hn
  unfold joinL
  rw [if_pos h]
  rfl
theorem mem_front {t : List Int} {k : Nat} (hk : k ≤ t.length) (x : Int) : x ∈ t.take k ↔ ∃ j, j < k ∧ t.getD j 0 = x := by
  rw [List.mem_take_iff_getElem]
  constructor
  · rintro ⟨j, hj, rfl⟩
    exact ⟨j, by omega, by simp [List.getD, show j < t.length by omega]⟩
  · rintro ⟨j, hj, rfl⟩
    exact ⟨j, by omega, by simp [List.getD, show j < t.length by omega]⟩
set_option maxHeartbeats 2000000 in
theorem own7_permute (A A' : Option Addr) (n c n' c' : Nat) (s t : List Int) (w : World) (h : NumsF w A n c s) (h' : NumsF w A' n' c' t) (hn : n ≤ 1048576) (hn' : n' ≤ 1048576) :
    Calls Try.prog 78 #[.slice A n c, .slice A' n' c'] w (GaveIntsB (permL s t) (permB s t) w) := by
  have HR := Lib.hid (own7_right A n c _ s w h.1 hn)
  have H := Lib.hid h.1
  have H' := Lib.hid h'.1
  have HC' := Lib.hid h'.2
  have HL := Lib.hid h.len
  have HL' := Lib.hid h'.len
  clear h h'
  have HPN := Lib.hid (show permB s t = false → permL s t = [] from fun hb => by unfold permL; rw [hb]; rfl)
  cases hr : rightS s with
  | false =>
    rw [hr] at HR
    have HNB := Lib.hid (show permB s t = false from perm_not (by rw [hr]; rintro ⟨h, _⟩; cases h))
    have HNL := Lib.hid (HPN.out HNB.out)
    clear hr
    go_enter Try.func78, Try.ntmps78
    go_wp2_with fail
    refine HR.out.mono ?_
    rintro e w1 ⟨rfl, rfl⟩
    go_wp2_with fail
    go_ret2
    exact GaveIntsB.none_ HNL.out HNB.out (grown_refl _ _)
  | true =>
    rw [hr] at HR
    by_cases hnn : n' = n
    · subst hnn
      have d0 : ((n' : Int) != (n' : Int)) = false := by simp
      have HRT := Lib.hid hr
      obtain ⟨Z, hZ, hmk⟩ := make_shape n' hn
      have HW0 := Lib.hid (Whole7.fresh w hZ)
      obtain ⟨F, hF⟩ : ∃ F : Nat → Int, F = fun j => s.getD (t.getD j 0).toNat 0 := ⟨_, rfl⟩
      have HF := Lib.hid (show ∀ j, F j = s.getD (t.getD j 0).toNat 0 from fun j => by rw [hF])
      have HPT := Lib.hid (show permB s t = true → doneE n' F n' = permL s t from fun hb => by rw [done_end, perm_tab HL'.out hb, hF])
      rw [done_start n' F] at HW0
      obtain ⟨g, hg⟩ : ∃ g, g = w.heap.size := ⟨_, rfl⟩
      have HGD := Lib.hid hg
      clear hr hZ hF hg
      go_enter Try.func78, Try.ntmps78
      go_wp2_with fail
      refine HR.out.mono ?_
      rintro e w1 ⟨rfl, rfl⟩
      go_wp2_with fail
      rw [← HGD.out] at HW0 ⊢
      go_loopw [24] (fun i wr => ∃ k : Nat, k ≤ n' ∧ i = .int .i64 k ∧ Whole7 wr g (doneE n' F k) ∧ axesP n' t k ∧ w1.grownBy wr none) (fun i _ => n' - (intOf i).toNat)
      case atStart => exact ⟨0, Nat.zero_le _, rfl, HW0.out, fun i hi => by omega, World.grownBy_alloc _ _ _⟩
      case round =>
        obtain ⟨k, hk, rfl, hW, hq, hg⟩ := hrel
        have HQ := Lib.hid hq
        have HW := Lib.hid hW
        have HG := Lib.hid hg
        clear hW hq
        by_cases hlt : k < n'
        · obtain ⟨A2, c2, hs2, hn2, he2⟩ := nums_head (H'.out.grow hg) HC'.out.1 HC'.out.2 (k := k) (by omega)
          obtain ⟨b', off', rfl, _, hc'⟩ := (H'.out.grow hg).2.at_ hlt
          have HCO := Lib.hid (fun (x : Int) => contains_any A2 k c2 (t.take k) x wr hn2.ints (by omega))
          have HMF := Lib.hid (mem_front (t := t) (k := k) (by rw [HL'.out]; omega))
          have HNM := Lib.hid (fun (x : Int) => own7_named A n' c x wr)
          have HFK := Lib.hid (HF.out k)
          generalize hx : t.getD k 0 = x at *
          have HX := Lib.hid hx
          have HNO : Hid (¬ ((0 ≤ x ∧ x < n') ∧ ¬ x ∈ t.take k) → permB s t = false) := Lib.hid fun hno => perm_not (by
            rintro ⟨_, _, h⟩
            rw [HL.out] at h
            have := h k hlt
            rw [HX.out] at this
            refine hno ⟨this.1, fun hm => ?_⟩
            obtain ⟨j, hj, e⟩ := (HMF.out x).1 hm
            exact this.2 j hj e)
          clear hx he2 hn2
          by_cases hin : 0 ≤ x ∧ x < n'
          · have HN2 := Lib.hid (HNM.out x)
            rw [decide_eq_true hin] at HN2
            by_cases hm : x ∈ t.take k
            · have HC2 := Lib.hid (HCO.out x)
              rw [decide_eq_true hm] at HC2
              have HNB := Lib.hid (HNO.out fun h => h.2 hm)
              have HNL := Lib.hid (HPN.out HNB.out)
              clear hm hin hg
              go_wp2_with fail
              refine HN2.out.mono ?_
              rintro e w2 ⟨rfl, rfl⟩
              go_wp2_with fail
              refine HC2.out.mono ?_
              rintro e w3 ⟨rfl, rfl⟩
              go_wp2_with fail
              go_ret2
              exact GaveIntsB.none_ HNL.out HNB.out HG.out
            · have HC2 := Lib.hid (HCO.out x)
              rw [decide_eq_false hm] at HC2
              have HOK : Hid (axesP n' t (k + 1)) := Lib.hid fun i hi => by
                by_cases e : i = k
                · subst e
                  rw [HX.out]
                  exact ⟨hin, fun j hj e2 => hm ((HMF.out x).2 ⟨j, hj, e2⟩)⟩
                · exact HQ.out i (by omega)
              obtain ⟨a, rfl⟩ : ∃ a : Nat, x = (a : Int) := ⟨x.toNat, by omega⟩
              have han : a < n' := by omega
              obtain ⟨b, off, rfl, _, hcs⟩ := (H.out.grow hg).2.at_ han
              have HPU := Lib.hid (HW.out.put k (F k))
              rw [done_put] at HPU
              have HGP := Lib.hid (grown_put (j := k) HG.out (.inr (show w1.heap.size ≤ g by rw [HGD.out]; exact Nat.le_refl _)) (.int .i64 (F k)))
              have c5 := HW.out.cell (i := k) (by rw [done_length]; exact hlt)
              have f5 := HW.out.free k
              rw [HFK.out] at HPU HGP
              simp only [Int.toNat_natCast] at HPU HGP
              generalize (doneE n' F k).getD k 0 = old at *
              generalize s.getD a 0 = z at *
              clear hm hin hg
              go_wp2_with fail
              refine HN2.out.mono ?_
              rintro e w2 ⟨rfl, rfl⟩
              go_wp2_with fail
              refine HC2.out.mono ?_
              rintro e w3 ⟨rfl, rfl⟩
              go_wp2_with fail
              go_roundw
              case rel => exact ⟨k + 1, by omega, by go_num, HPU.out, HOK.out, HGP.out⟩
              case measure => simp [intOf]; omega
          · have HN2 := Lib.hid (HNM.out x)
            rw [decide_eq_false hin] at HN2
            have HNB := Lib.hid (HNO.out fun h => hin h.1)
            have HNL := Lib.hid (HPN.out HNB.out)
            clear hin hg
            go_wp2_with fail
            refine HN2.out.mono ?_
            rintro e w2 ⟨rfl, rfl⟩
            go_wp2_with fail
            go_ret2
            exact GaveIntsB.none_ HNL.out HNB.out HG.out
        · obtain rfl : k = n' := by omega
          have HYB := Lib.hid (perm_yes (s := s) (t := t) HRT.out (by rw [HL.out, HL'.out]) (by rw [HL.out]; exact HQ.out))
          have HYL := Lib.hid (HPT.out HYB.out)
          clear hg
          go_wp2_with fail
          go_ret2
          exact GaveIntsB.of HYL.out HYB.out.symm (by rw [← HYL.out, done_length]) ((HW.out.own (base := w1.heap.size) (by rw [HGD.out]; exact Nat.le_refl _) (by rw [done_length]; omega)).of_len (done_length _ _ _)) HG.out
    · have d0 : ((n' : Int) != (n : Int)) = true := by simp; omega
      have HNB := Lib.hid (show permB s t = false from perm_not (by rintro ⟨_, h, _⟩; rw [HL.out, HL'.out] at h; exact hnn h))
      have HNL := Lib.hid (HPN.out HNB.out)
      clear hnn hr
      go_enter Try.func78, Try.ntmps78
      go_wp2_with fail
      refine HR.out.mono ?_
      rintro e w1 ⟨rfl, rfl⟩
      go_wp2_with fail
      go_ret2
      exact GaveIntsB.none_ HNL.out HNB.out (grown_refl _ _)
end Go.Proofs.Ytkpfhjjojchdlaa
