/-
  Layer 8, plain: what ViewCells says: flipped twice a view is as it was; an axis of windows, dropped, is a slice.
-/
import Derived.Test.YtkpfhjjojchdlaaWay8
namespace Go.Proofs.Ytkpfhjjojchdlaa
open Go.ChangeShapes Go.WideShapes Go.ChangeAt Go.RowKit
set_option linter.unusedVariables false
set_option maxRecDepth 100000

theorem fine_right {v u : Vw} (h : fineV v = (u, true)) : v = u ∧ rightV u = true := by
  by_cases hr : rightV v = true
  · rw [fine_yes hr] at h
    injection h with h _
    subst h
    exact ⟨rfl, hr⟩
  · rw [fine_no (by simpa using hr)] at h
    injection h with _ h
    cases h
theorem set_same (l : List Int) (k : Nat) (h : k < l.length) : l.set k (l.getD k 0) = l := by
  apply List.ext_getElem (by simp)
  intro i h1 h2
  rw [List.getElem_set]
  split
  · rename_i e; subst e; simp [List.getD, h2]
  · rfl
theorem getD_set (l : List Int) (k : Nat) (z : Int) (h : k < l.length) : (l.set k z).getD k 0 = z := by simp [List.getD, h]
theorem set_eta {v : Vw} {k : Nat} (hk : k < v.sh.length) {z o : Int} : setV v k (v.sh.getD k 0) z o = ⟨v.sh, v.st.set k z, o⟩ := by unfold setV; rw [set_same _ _ hk]
theorem axis_yes {v : Vw} {i : Int} (h1 : rightV v = true) (h2 : 0 ≤ i) (h3 : i < v.sh.length) : axisB v i = true := by
  unfold axisB; rw [h1]; simp only [Bool.true_and, decide_eq_true_eq]; exact ⟨h2, h3⟩
theorem flip_no {v : Vw} {i : Int} (h : axisB v i = false) : flipV v i = (zeroV, false) := by unfold flipV; rw [h]; rfl
theorem flip_twice {v y : Vw} {i : Int} (h : flipV v i = (y, true)) : flipV y i = (v, true) ∧ rightV y = true := by
  unfold flipV at h
  by_cases ha : axisB v i = true
  · rw [if_pos ha] at h
    obtain ⟨hv, h0, hl⟩ := axis_all ha
    obtain ⟨hy, hry⟩ := fine_right h
    obtain ⟨k, rfl⟩ : ∃ k : Nat, i = (k : Int) := ⟨i.toNat, by omega⟩
    have hk : k < v.sh.length := by omega
    have hk' : k < v.st.length := by rw [(rightV_all hv).2.1]; exact hk
    rw [Int.toNat_natCast] at hy
    rw [set_eta hk] at hy
    have hay : axisB y (k : Int) = true := axis_yes hry h0 (by rw [← hy]; exact hl)
    refine ⟨?_, hry⟩
    unfold flipV
    rw [if_pos hay, Int.toNat_natCast]
    have e : setV y k (y.sh.getD k 0) (-y.st.getD k 0) (if 0 < y.sh.getD k 0 then y.off + (y.sh.getD k 0 - 1) * y.st.getD k 0 else y.off) = v := by
      subst hy
      unfold setV
      dsimp only
      rw [getD_set _ _ _ hk', set_same _ _ hk, List.set_set, Int.neg_neg, set_same _ _ hk']
      have : (if 0 < v.sh.getD k 0 then (if 0 < v.sh.getD k 0 then v.off + (v.sh.getD k 0 - 1) * v.st.getD k 0 else v.off) + (v.sh.getD k 0 - 1) * -v.st.getD k 0 else (if 0 < v.sh.getD k 0 then v.off + (v.sh.getD k 0 - 1) * v.st.getD k 0 else v.off)) = v.off := by
        by_cases hn : 0 < v.sh.getD k 0
        · rw [if_pos hn, if_pos hn, Int.mul_neg]; omega
        · rw [if_neg hn, if_neg hn]
      rw [this]
    rw [e]
    exact fine_yes hv
  · rw [if_neg ha] at h
    injection h with _ h
    cases h

/-! ### windows -/
def winW (v : Vw) (k : Nat) (x : Int) : Vw := ⟨v.sh.take k ++ [v.sh.getD k 0 - x + 1] ++ [x] ++ v.sh.drop (k + 1), putL v.st (k + 1) (v.st.getD k 0), v.off⟩
theorem win_set (s : List Int) (k : Nat) (x y : Int) (hk : k < s.length) : (s.take (k + 1) ++ [x] ++ s.drop (k + 1)).set k y = s.take k ++ [y] ++ [x] ++ s.drop (k + 1) := by
  rw [List.take_succ_eq_append_getElem hk]
  simp only [List.append_assoc]
  rw [List.set_append, if_neg (by rw [List.length_take]; omega), List.length_take, Nat.min_eq_left (by omega), Nat.sub_self]
  rfl
theorem win_open {v : Vw} {k : Nat} {x : Int} (hk : k < v.sh.length) (hv : rightV v = true) : windowV v (k : Int) x = if decide (1 ≤ x ∧ x ≤ v.sh.getD k 0 ∧ v.sh.length < 6) = true then fineV (winW v k x) else (zeroV, false) := by
  have ha : axisB v (k : Int) = true := axis_yes hv (by omega) (by omega)
  have hl := (rightV_len hv hk).2
  unfold windowV
  rw [ha, Int.toNat_natCast, Bool.true_and]
  by_cases h : 1 ≤ x ∧ x ≤ v.sh.getD k 0 ∧ v.sh.length < 6
  · have hw : withB v.sh ((k : Int) + 1) x = true := by
      unfold withB
      rw [(full_all (rightV_all hv).1).1]
      simp only [Bool.true_and, decide_eq_true_eq]
      omega
    have hL : withL v.sh ((k : Int) + 1) x = v.sh.take (k + 1) ++ [x] ++ v.sh.drop (k + 1) := by unfold withL; rw [if_pos hw]; rfl
    rw [hw, if_pos (by simp only [Bool.and_true, decide_eq_true_eq]; exact ⟨h.1, h.2.1⟩), if_pos (decide_eq_true h), hL, win_set _ _ _ _ hk]
    rfl
  · rw [if_neg (show ¬ decide (1 ≤ x ∧ x ≤ v.sh.getD k 0 ∧ v.sh.length < 6) = true by rw [decide_eq_true_eq]; exact h)]
    rw [if_neg]
    intro hh
    simp only [Bool.and_eq_true, decide_eq_true_eq] at hh
    obtain ⟨h1, h2⟩ := hh
    unfold withB at h2
    simp only [Bool.and_eq_true, decide_eq_true_eq] at h2
    exact h ⟨h1.1, h1.2, by omega⟩
theorem split_prod (s : List Int) (k : Nat) (hk : k < s.length) : prodL s = prodL (s.take k) * s.getD k 0 * prodL (s.drop (k + 1)) := by
  have := prodL_append (s.take (k + 1)) (s.drop (k + 1))
  rw [List.take_append_drop, prodL_take s k hk] at this
  exact this
theorem win_bound {a b n x : Int} (ha : 0 ≤ a) (hb : 0 ≤ b) (hx : 1 ≤ x) (hn : x ≤ n) (h : a * n * b ≤ 300) : a * (n - x + 1) * x * b ≤ 1048576 := by
  have hm : 0 ≤ a * b := Int.mul_nonneg ha hb
  have e1 : a * n * b = a * b * n := by rw [Int.mul_assoc, Int.mul_comm n b, ← Int.mul_assoc]
  have e2 : a * (n - x + 1) * x * b = a * b * ((n - x + 1) * x) := by
    rw [Int.mul_assoc a, Int.mul_assoc a, Int.mul_comm _ b, ← Int.mul_assoc]
  rw [e1] at h
  rw [e2]
  generalize a * b = m at *
  by_cases h0 : m = 0
  · rw [h0, Int.zero_mul]; omega
  · have h1 : n ≤ 300 := by
      have := Int.mul_le_mul_of_nonneg_right (show 1 ≤ m by omega) (show 0 ≤ n by omega)
      omega
    have h2 : (n - x + 1) * x ≤ n * 300 := Int.mul_le_mul (by omega) (by omega) (by omega) (by omega)
    have h3 := Int.mul_le_mul_of_nonneg_left h2 hm
    rw [show m * (n * 300) = m * n * 300 from (Int.mul_assoc _ _ _).symm] at h3
    omega
theorem mem_parts {s : List Int} {k : Nat} {z : Int} (h : z ∈ s.take k ∨ z ∈ s.drop k) : z ∈ s := h.elim List.mem_of_mem_take List.mem_of_mem_drop
theorem win_right {v : Vw} {k : Nat} {x : Int} (hk : k < v.sh.length) (hv : rightV v = true) (hc : cellsV v ≤ 300) (h1 : 1 ≤ x) (h2 : x ≤ v.sh.getD k 0) (h6 : v.sh.length < 6) : rightV (winW v k x) = true := by
  obtain ⟨hf, hl, ho1, ho2, hst⟩ := rightV_all hv
  obtain ⟨hrs, hpr⟩ := full_all hf
  have hlen := rightV_len hv hk
  have hz : ∀ z ∈ (winW v k x).sh, 0 ≤ z ∧ z ≤ 1048576 := by
    intro z hz
    unfold winW at hz
    simp only [List.mem_append, List.mem_singleton] at hz
    rcases hz with ((hz | rfl) | rfl) | hz
    · exact (right_all hrs).1 z (mem_parts (.inl hz))
    · omega
    · omega
    · exact (right_all hrs).1 z (mem_parts (.inr hz))
  have hll : (winW v k x).sh.length = v.sh.length + 1 := by
    unfold winW
    simp only [List.length_append, List.length_take, List.length_drop, List.length_singleton]
    omega
  have hrw : rightS (winW v k x).sh = true := decide_eq_true ⟨hz, by omega⟩
  have hcp : prodL v.sh ≤ 300 := by rw [← cells_right hv]; exact hc
  have hpw : prodL (winW v k x).sh ≤ 1048576 := by
    have e : prodL (winW v k x).sh = prodL (v.sh.take k) * (v.sh.getD k 0 - x + 1) * x * prodL (v.sh.drop (k + 1)) := by
      unfold winW
      rw [prodL_append, prodL_append, prodL_append]
      simp [prodL]
    rw [e]
    rw [split_prod v.sh k hk] at hcp
    exact win_bound (prod_nonneg fun z hz => ((right_all hrs).1 z (mem_parts (.inl hz))).1) (prod_nonneg fun z hz => ((right_all hrs).1 z (mem_parts (.inr hz))).1) h1 h2 hcp
  refine rightV_yes ⟨?_, ?_, ho1, ho2, ?_⟩
  · unfold full sizeB prB
    rw [hrw, show min (1048576 : Int) 1048576 = 1048576 by omega, sz_of_right hrw (by omega)]
    simp only [Bool.true_and, decide_eq_true_eq]
    exact hpw
  · rw [hll]
    show (putL v.st (k + 1) (v.st.getD k 0)).length = _
    unfold putL
    simp only [List.length_append, List.length_take, List.length_drop, List.length_singleton]
    omega
  · intro i hi
    have hm := getD_mem hi
    generalize (winW v k x).st.getD i 0 = z at *
    have hm' : z ∈ putL v.st (k + 1) (v.st.getD k 0) := hm
    unfold putL at hm'
    simp only [List.mem_append, List.mem_singleton] at hm'
    have hall : ∀ z ∈ v.st, -1048576 ≤ z ∧ z ≤ 1048576 := fun z hz => by
      obtain ⟨j, hj, rfl⟩ := List.getElem_of_mem hz
      have := hst j hj
      simpa [List.getD, hj] using this
    rcases hm' with (hm' | rfl) | hm'
    · exact hall z (mem_parts (.inl hm'))
    · exact hst k (by rw [hl]; exact hk)
    · exact hall z (mem_parts (.inr hm'))
/-- where Window tells none, there is a reason. -/
theorem window_false {v u : Vw} {k : Nat} {x : Int} (hk : k < v.sh.length) (hv : rightV v = true) (hc : cellsV v ≤ 300) (h : windowV v (k : Int) x = (u, false)) : x < 1 ∨ v.sh.getD k 0 < x ∨ 6 ≤ v.sh.length := by
  rw [win_open hk hv] at h
  by_cases hh : 1 ≤ x ∧ x ≤ v.sh.getD k 0 ∧ v.sh.length < 6
  · rw [if_pos (decide_eq_true hh), fine_yes (win_right hk hv hc hh.1 hh.2.1 hh.2.2)] at h
    injection h with _ h
    cases h
  · omega
theorem window_true {v u : Vw} {k : Nat} {x : Int} (hk : k < v.sh.length) (hv : rightV v = true) (h : windowV v (k : Int) x = (u, true)) : u = winW v k x ∧ rightV u = true ∧ 1 ≤ x ∧ x ≤ v.sh.getD k 0 := by
  rw [win_open hk hv] at h
  by_cases hh : 1 ≤ x ∧ x ≤ v.sh.getD k 0 ∧ v.sh.length < 6
  · rw [if_pos (decide_eq_true hh)] at h
    obtain ⟨e, hr⟩ := fine_right h
    exact ⟨e.symm, hr, hh.1, hh.2.1⟩
  · rw [if_neg (by rw [decide_eq_true_eq]; exact hh)] at h
    injection h with _ h
    cases h
theorem win_length (v : Vw) (k : Nat) (x : Int) (hk : k < v.sh.length) : (winW v k x).sh.length = v.sh.length + 1 := by
  unfold winW
  simp only [List.length_append, List.length_take, List.length_drop, List.length_singleton]
  omega
theorem win_get (v : Vw) (k : Nat) (x : Int) (hk : k < v.sh.length) : (winW v k x).sh.getD k 0 = v.sh.getD k 0 - x + 1 := by
  unfold winW
  dsimp only
  simp only [List.getD, List.append_assoc]
  rw [List.getElem?_append_right (by rw [List.length_take]; omega), List.length_take, Nat.min_eq_left (by omega), Nat.sub_self]
  rfl
theorem drop_window {v u : Vw} {k : Nat} {x : Int} (hk : k < v.sh.length) (hv : rightV v = true) (h : windowV v (k : Int) x = (u, true)) {j : Int} (h0 : 0 ≤ j) (hj : j < v.sh.getD k 0 - x + 1) : dropV u (k : Int) j = sliceV v (k : Int) j x 1 := by
  obtain ⟨rfl, hru, h1, h2⟩ := window_true hk hv h
  have hll : (winW v k x).sh.length = v.sh.length + 1 := by
    unfold winW
    simp only [List.length_append, List.length_take, List.length_drop, List.length_singleton]
    omega
  have hk' : k < v.st.length := by rw [(rightV_all hv).2.1]; exact hk
  have hlen := rightV_len hv hk
  have hstk := rightV_str hv hk
  have hau : axisB (winW v k x) (k : Int) = true := axis_yes hru (by omega) (by omega)
  have hav : axisB v (k : Int) = true := axis_yes hv (by omega) (by omega)
  have hst : (winW v k x).st = v.st.take (k + 1) ++ [v.st.getD k 0] ++ v.st.drop (k + 1) := rfl
  have hstg : (winW v k x).st.getD k 0 = v.st.getD k 0 := by
    rw [hst]
    simp only [List.getD, List.append_assoc]
    rw [List.getElem?_append_left (by rw [List.length_take]; omega), List.getElem?_take_of_lt (by omega)]
  have e1 : withoutL (winW v k x).sh (k : Int) = v.sh.set k x := by
    have hb : withoutB (winW v k x).sh (k : Int) = true := by
      unfold withoutB
      rw [(full_all (rightV_all hru).1).1]
      simp only [Bool.true_and, decide_eq_true_eq]
      omega
    unfold withoutL
    rw [if_pos hb, Int.toNat_natCast]
    unfold winW
    dsimp only
    simp only [List.append_assoc]
    rw [List.take_left' (by rw [List.length_take]; omega), ← List.append_assoc, List.drop_left' (by rw [List.length_append, List.length_take, List.length_singleton]; omega), List.set_eq_take_append_cons_drop, if_pos hk]
    rfl
  have e2 : (winW v k x).st.take k ++ (winW v k x).st.drop (k + 1) = v.st := by
    rw [hst]
    simp only [List.append_assoc]
    rw [List.take_append_of_le_length (by rw [List.length_take]; omega), List.take_take, Nat.min_eq_left (by omega), List.drop_left' (by rw [List.length_take]; omega)]
    have := set_same v.st k hk'
    rw [List.set_eq_take_append_cons_drop, if_pos hk'] at this
    exact this
  have hd : dropV (winW v k x) (k : Int) j = fineV ⟨v.sh.set k x, v.st, v.off + j * v.st.getD k 0⟩ := by
    unfold dropV
    rw [hau, Int.toNat_natCast, win_get v k x hk, Bool.true_and, if_pos (decide_eq_true ⟨h0, hj⟩), e1, e2, hstg]
    rfl
  have hs : sliceV v (k : Int) j x 1 = fineV ⟨v.sh.set k x, v.st, v.off + j * v.st.getD k 0⟩ := by
    have hb : sliceB v (k : Int) j x 1 = true := by
      unfold sliceB
      rw [hav, Int.toNat_natCast]
      simp only [Bool.true_and, Bool.and_eq_true, Bool.or_eq_true, decide_eq_true_eq, Int.one_mul, Int.mul_one]
      omega
    unfold sliceV
    rw [if_pos hb, Int.toNat_natCast, if_neg (by omega), Int.one_mul]
    unfold setV
    rw [set_same _ _ hk']
  rw [hd, hs]
theorem slice_right {v u : Vw} {i f n p : Int} (h : sliceV v i f n p = (u, true)) : rightV u = true := by
  unfold sliceV at h
  by_cases hb : sliceB v i f n p = true
  · rw [if_pos hb] at h; exact (fine_right h).2
  · rw [if_neg hb] at h; injection h with _ h; cases h
end Go.Proofs.Ytkpfhjjojchdlaa
