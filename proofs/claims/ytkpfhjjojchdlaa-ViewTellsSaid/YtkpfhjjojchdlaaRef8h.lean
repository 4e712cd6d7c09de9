/-
  Layer 8: the reference's insert.
-/
import Derived.Test.YtkpfhjjojchdlaaRef8d
import Derived.Deep.AppendLies
namespace Go.Proofs.Ytkpfhjjojchdlaa
open Go.ChangeShapes Go.WideShapes Go.ChangeAt Go.RowKit
set_option linter.unusedVariables false
set_option maxRecDepth 100000

set_option maxHeartbeats 4000000 in
theorem ref8insert_any (A : Option Addr) (n c k : Nat) (s : List Int) (y : Int) (w : World) (h : NumsF w A n c s) (hn : n ≤ 1048576) (hkn : k ≤ n) :
    Calls Try.prog 62 #[.slice A n c, .int .i64 (k : Int), .int .i64 y] w (GaveInts (putL s k y) w) := by
  have HL := Lib.hid h.len
  obtain ⟨A2, c2, hs2, hn2, he2⟩ := nums_head h.1 h.2.1 h.2.2 (k := k) hkn
  obtain ⟨A3, c3, hs3, hn3, he3⟩ := nums_tail h.1 h.2.1 h.2.2 (k := k) hkn
  have HE2 := Lib.hid he2
  have HE3 := Lib.hid he3
  have HQS : Hid (∀ (w' : World), w.grownBy w' none → Nums w' w'.heap.size A2 k (s.take k) ∧ Nums w' w'.heap.size A3 (n - k) (s.drop k)) := Lib.hid fun w' hg => ⟨hn2.grow hg, hn3.grow hg⟩
  have d2 : decide (n < k) = false := decide_eq_false (by omega)
  have HPL := Lib.hid (show putL s k y = s.take k ++ [y] ++ s.drop k from rfl)
  clear h hn2 hn3 he2 he3
  go_enter Try.func62, Try.ntmps62
  go_wp2_with fail
  go_region_held3 (fun w' => True) (trivial) (first
    | (refine step_append_ints rfl (.tmp 14) (.tmp 17) rfl (by rfl) (by rfl) (base := w.heap.size) (xs := s.take k ++ [y]) ho5.out (HQS.out _ hgc5.out).2 HE3.out (by first | omega | (simp; done) | (simp; omega)) (by omega) ?_; intro B3 k3 w6 ho6 hg6; have hgc6 : Hid (w.grownBy w6 none) := Lib.hid (grown_join hgc5.out hg6.out (.inr fun b hb => (ho5.out.2.lt b (by rw [map_own]; exact hb)).1)))
    | (refine step_append_ints rfl (.tmp 11) (.tmp 13) rfl (by rfl) (by rfl) (base := w.heap.size) (xs := s.take k) (ys := [y]) (OwnI.grow (ints_as (by omega) (by simp) ho4.out) (by repeat (first | exact grown_refl _ _ | refine grown_drew ?_ | refine grown_alloc ?_ _))) (ints_one (by first | exact one7 _ _ | exact (hg4.out.cell_far ⟨_, 0, none⟩ (by simp <;> omega) (by simp)).trans (by first | exact one7a _ _ | exact one7b _ _ _ | exact one7c _ _ _))) (fun e => by cases e) (by first | omega | (simp; done) | (simp; omega)) (by omega) ?_; intro B2 k2 w5 ho5 hg5; have hgc5 : Hid (w.grownBy w5 none) := Lib.hid (grown_join (by repeat (first | exact hgc4.out | refine grown_drew ?_ | refine grown_alloc ?_ _)) hg5.out (.inr fun b hb => (ho4.out.2.lt b (by rw [map_own]; exact hb)).1)); have hz5 := hgc5.out.size)
    | (refine step_append_ints rfl (.tmp 7) (.tmp 10) rfl (by rfl) (by rfl) (base := w.heap.size) (xs := []) (ints_empty (by first | exact new7a _ _ | exact new7b _ _ _ | exact new7c _ _ _) (by first | omega | (simp; done) | (simp; omega))) (HQS.out _ (by repeat (first | exact grown_refl _ _ | refine grown_drew ?_ | refine grown_alloc ?_ _))).1 HE2.out (by first | omega | (simp; done) | (simp; omega)) (by omega) ?_; intro B1 k1 w4 ho4 hg4; have hgc4 : Hid (w.grownBy w4 none) := Lib.hid (grown_join (by repeat (first | exact grown_refl _ _ | refine grown_drew ?_ | refine grown_alloc ?_ _)) hg4.out (.inr fun b hb => by simp at hb; omega)); have hz4 := hgc4.out.size))
  all_goals
    go_wp2
    go_ret
    exact gave_ints HPL.out (ints_as (by omega) rfl ho6.out) hgc6.out
end Go.Proofs.Ytkpfhjjojchdlaa
