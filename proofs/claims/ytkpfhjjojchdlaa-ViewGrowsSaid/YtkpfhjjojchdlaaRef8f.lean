/-
  Layer 8: the reference's New.
-/
import Derived.Test.YtkpfhjjojchdlaaRef8d
import Derived.Lib.SliceRun
namespace Go.Proofs.Ytkpfhjjojchdlaa
open Go.ChangeShapes Go.WideShapes Go.ChangeAt Go.RowKit
set_option linter.unusedVariables false
set_option maxRecDepth 100000

/-- a view is told, or none, whose rows are the call's own. -/
def GaveVQ (p : Vw × Bool) (w : World) (e : Ending) (w' : World) : Prop := ∃ A n c A' n' c', e = .returned (.tuple #[.agg #[.slice A n c, .slice A' n' c', .int .i64 p.1.off], .bool p.2]) ∧ OwnI w' w.heap.size A n c p.1.sh ∧ OwnI w' w.heap.size A' n' c' p.1.st ∧ w.grownBy w' none
theorem gaveVQ_no {p : Vw × Bool} {w w' : World} (h : p = (zeroV, false)) (hg : w.grownBy w' none) : GaveVQ p w (.returned (.tuple #[.agg #[.slice none 0 0, .slice none 0 0, .int .i64 0], .bool false])) w' := by
  subst h
  exact ⟨none, 0, 0, none, 0, 0, rfl, OwnI.nil _ _, OwnI.nil _ _, hg⟩
theorem fine_gaveQ {s t : List Int} {o : Int} {A A' : Option Addr} {n c n' c' : Nat} {w w' : World} {b : Bool} (hb : rightV ⟨s, t, o⟩ = b) (h1 : OwnI w' w.heap.size A n c s) (h2 : OwnI w' w.heap.size A' n' c' t) (hg : w.grownBy w' none) :
    GaveVQ (fineV ⟨s, t, o⟩) w (.returned (.tuple #[.agg #[.slice (fineA b A) (fineN b n) (fineN b c), .slice (fineA b A') (fineN b n') (fineN b c'), .int .i64 (fineI b o)], .bool b])) w' := by
  cases b with
  | false => exact gaveVQ_no (fine_no hb) hg
  | true => rw [fine_yes hb]; exact ⟨_, _, _, _, _, _, rfl, h1, h2, hg⟩
theorem nil8 (A : Option Addr) (n c : Nat) (w : World) : (binOp .eql 22 (.slice A n c) (.slice none 0 0)).run Try.prog w = .ok (.bool A.isNone) w :=
  Lib.run_eql_slice_nil w 22 3 A n c 0 0 Try.underlying22
theorem strides_len (s : List Int) : (stridesL s).length ≤ s.length := by
  by_cases h : strB s = true
  · rw [stride_yes h, fill_length]; exact Nat.le_refl _
  · unfold stridesL; rw [if_neg h]; exact Nat.zero_le _
set_option maxHeartbeats 2000000 in
theorem ref8New_any (A : Option Addr) (n c : Nat) (s : List Int) (w : World) (h : NumsF w A n c s) (hn : n ≤ 1048576) :
    Calls Try.prog 11 #[.slice A n c] w (GaveVQ (newV s) w) := by
  have HS := Lib.hid (fun w' (hg : w.grownBy w' none) => ref7StridesN_any A n c s w' (h.1.grow hg) hn)
  have HQ : Hid (∀ w', w.grownBy w' none → Nums w' w'.heap.size A n s) := Lib.hid fun w' hg => h.1.grow hg
  have HE := Lib.hid (fits_none h.2)
  have HL := Lib.hid h.len
  obtain ⟨w1, hw1⟩ : ∃ w1, w1 = w.alloc (.cells #[.slice none 0 0, .slice none 0 0, .int .i64 0] 24) := ⟨_, rfl⟩
  have hb := box8 w 24 #[.slice none 0 0, .slice none 0 0, .int .i64 0]
  rw [← hw1] at hb
  obtain ⟨hy, hg1⟩ := hb
  have HY := Lib.hid hy
  have HG1 := Lib.hid hg1
  have HW1 := Lib.hid hw1
  clear h hw1 hy hg1
  go_enter Try.func11, Try.ntmps11
  go_upto_region 1 with fail
  rw [← HW1.out]
  go_wp2_with fail
  refine (HS.out _ HG1.out).mono ?_
  rintro e w2 ⟨A2, n2, c2, rfl, ho2, hg2, hnone⟩
  have HG2 := Lib.hid (grown_join HG1.out hg2 (.inr (by simp)))
  have HO2 : Hid (OwnI w2 w1.heap.size A2 n2 c2 (stridesL s)) := Lib.hid ho2
  have HY2 := Lib.hid (HY.out.grown hg2 (by simp))
  have hq := nil8 A2 n2 c2
  rw [hnone] at hq
  have HN2 := Lib.hid (show n2 ≤ 1048576 by
    have h1 := ho2.1
    have h2 := strides_len s
    have h3 := HL.out
    omega)
  have hsz : w.heap.size < w1.heap.size := HY.out.small
  have HSZ := Lib.hid hsz
  have hz2 : w1.heap.size ≤ w2.heap.size := hg2.size
  clear ho2 hg2 hnone
  cases hst : strB s with
  | false =>
    rw [hst] at hq
    have HF := Lib.hid (show newV s = (zeroV, false) by unfold newV; rw [hst]; rfl)
    obtain ⟨q0, q1, q2, f0, f1, f2, d0, d1, d2⟩ := HY2.out.three8 (.slice none 0 0) (.slice none 0 0) (.int .i64 0)
    go_wp2_with fail
    exact bodyPost_ret (v := .tuple #[.agg #[.slice none 0 0, .slice none 0 0, .int .i64 0], .bool false]) (by simp [results, Try.results11, go_sem, d0, d1, d2]) rfl (gaveVQ_no HF.out (grown_three HG2.out (Nat.le_refl _) _ _ _))
  | true =>
    rw [hst] at hq
    have HF := Lib.hid (show newV s = fineV ⟨s, stridesL s, 0⟩ by unfold newV; rw [if_pos hst])
    obtain ⟨rb, hrb⟩ : ∃ rb, rightV ⟨s, stridesL s, 0⟩ = rb := ⟨_, rfl⟩
    have HFN : Hid (∀ A3 n3 c3 w', NumsF w' A3 n3 c3 s → NumsF w' A2 n2 c2 (stridesL s) → n3 ≤ 1048576 → Calls Try.prog 42 #[.agg #[.slice A3 n3 c3, .slice A2 n2 c2, .int .i64 0]] w' (TellG (.tuple #[.agg #[.slice (fineA rb A3) (fineN rb n3) (fineN rb c3), .slice (fineA rb A2) (fineN rb n2) (fineN rb c2), .int .i64 (fineI rb 0)], .bool rb]) w')) := Lib.hid fun A3 n3 c3 w' h3 h4 hn3 => by rw [← hrb]; exact ref8fine_any A3 A2 n3 c3 n2 c2 _ _ _ w' h3 h4 hn3 HN2.out
    have HRB := Lib.hid hrb
    clear hrb
    go_wp2_with (at_builtin; refine list_append_ints rfl (.tmp 10) (.tmp 11) rfl (by rfl) (by rfl) (base := w2.heap.size) (xs := []) (ints_empty (new8 _ _) (Nat.le_refl _)) (HQ.out _ (grown_alloc HG2.out _)) HE.out (by simp) (by omega) ?_; intro A3 c3 w3 ho3 hg3; have HG3' : Hid (w2.grownBy w3 none) := Lib.hid (grown_join (World.grownBy_alloc w2 _ none) hg3.out (.inr fun b hb => by simp at hb; omega)))
    have HO3 := Lib.hid (ints_as (by omega) (by simp) ho3.out : OwnI w3 w2.heap.size A3 n c3 s)
    have HG3 := Lib.hid (grown_join HG2.out HG3'.out (.inr (by simp)))
    refine (HFN.out _ _ _ _ HO3.out.numsF (HO2.out.grow HG3'.out).numsF hn).mono ?_
    rintro e w4 ⟨rfl, hg4⟩
    have HG4 := Lib.hid (grown_join HG3.out hg4 (.inr (by simp)))
    obtain ⟨q0, q1, q2, f0, f1, f2, d0, d1, d2⟩ := ((HY2.out.grown HG3'.out (by simp)).grown hg4 (by simp)).three8 (.slice (fineA rb A3) (fineN rb n) (fineN rb c3)) (.slice (fineA rb A2) (fineN rb n2) (fineN rb c2)) (.int .i64 (fineI rb 0))
    have HG5 := Lib.hid (grown_three HG4.out (b := w.heap.size) (Nat.le_refl _) (.slice (fineA rb A3) (fineN rb n) (fineN rb c3)) (.slice (fineA rb A2) (fineN rb n2) (fineN rb c2)) (.int .i64 (fineI rb 0)))
    have HFIN := Lib.hid (fine_gaveQ HRB.out ((own_three (HO3.out.grow hg4) (by omega) (.slice (fineA rb A3) (fineN rb n) (fineN rb c3)) (.slice (fineA rb A2) (fineN rb n2) (fineN rb c2)) (.int .i64 (fineI rb 0))).lower HG2.out.size) ((own_three ((HO2.out.grow HG3'.out).grow hg4) HSZ.out (.slice (fineA rb A3) (fineN rb n) (fineN rb c3)) (.slice (fineA rb A2) (fineN rb n2) (fineN rb c2)) (.int .i64 (fineI rb 0))).lower (by omega)) HG5.out)
    clear hg4 ho3 hg3
    go_wp2_with fail
    exact bodyPost_ret (v := .tuple #[.agg #[.slice (fineA rb A3) (fineN rb n) (fineN rb c3), .slice (fineA rb A2) (fineN rb n2) (fineN rb c2), .int .i64 (fineI rb 0)], .bool rb]) (by simp [results, Try.results11, go_sem, d0, d1, d2]) rfl (by rw [HF.out]; exact HFIN.out)
end Go.Proofs.Ytkpfhjjojchdlaa
