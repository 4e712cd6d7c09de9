/-
  Layer 6: the program's own table says all that the walks ask of it.
-/
import Derived.Test.YtfemfkiamipipaaNewO6
import Derived.Test.YtfemfkiamipipaaAll6
namespace Go.Proofs.Ytfemfkiamipipaa
open Go.ChangeShapes Go.WideShapes Go.ChangeAt Go.RowKit Go.Shelf
set_option linter.unusedVariables false
attribute [local go_sem] Oper.semAt_some

theorem says6 : TabSays OTab where
  keep := fun h hs hd => h.keep hs hd
  more := fun h hG => h.more hG
  new := ownNew_any
  find := fun F q l a w h ha => ownFind_any F q l a.k a.n a.s w h ha
  add := fun F q l a w h ha => ownAdd_any F q l a.k a.n a.s w h ha
  len := ownLen_any
  room := ownRoom_any
  longest := ownLongest_any
  labels := ownLabels_any
set_option maxRecDepth 100000 in
set_option maxHeartbeats 2000000 in
theorem noFind (v : Value) (a : Lab) (w : World) (h : Nobody v w) : Calls Try.prog 13 #[v, labO a] w (ToldG (.tuple #[.int .i64 0, .bool false]) w) := by
  obtain ⟨ak, an, as'⟩ := a
  obtain ⟨p, rfl⟩ : ∃ p, v = .pointer p := by
    rcases h with h | ⟨b, h, _⟩
    · exact ⟨_, h⟩
    · exact ⟨_, h⟩
  show Calls Try.prog 13 #[.pointer p, .agg #[.int .u8 ak, .int .i64 an, .string as']] w _
  obtain ⟨w4, hw4⟩ : ∃ w4, w4 = (((w.alloc (.cells #[.pointer p] 25)).alloc (.cells #[.int .u8 ak, .int .i64 an, .string as'] 38)).alloc (.cells #[.int .i64 0] 3)).alloc (.cells #[.bool false] 4) := ⟨_, rfl⟩
  have HW4 := Lib.hid hw4
  have HG4 := Lib.hid (show w.grownBy w4 none by rw [hw4]; exact grown_alloc (grown_alloc (grown_alloc (grown_alloc (grown_refl _ _) _) _) _) _)
  have e1 : (w.alloc (.cells #[.pointer p] 25)).heap.size = w.heap.size + 1 := by simp
  have e2 : ((w.alloc (.cells #[.pointer p] 25)).alloc (.cells #[.int .u8 ak, .int .i64 an, .string as'] 38)).heap.size = w.heap.size + 1 + 1 := by simp
  have e3 : (((w.alloc (.cells #[.pointer p] 25)).alloc (.cells #[.int .u8 ak, .int .i64 an, .string as'] 38)).alloc (.cells #[.int .i64 0] 3)).heap.size = w.heap.size + 1 + 1 + 1 := by simp
  have HB0 := Lib.hid (show Box w4 w.heap.size 25 #[.pointer p] by rw [hw4]; exact (((Box.fresh w _ _).alloc _).alloc _).alloc _)
  have HB2 := Lib.hid (show Box w4 (w.heap.size + 1 + 1) 3 #[.int .i64 0] by rw [hw4, ← e2]; exact (Box.fresh _ _ _).alloc _)
  have HB3 := Lib.hid (show Box w4 (w.heap.size + 1 + 1 + 1) 4 #[.bool false] by rw [hw4, ← e3]; exact Box.fresh _ _ _)
  have HM := Lib.hid (made_no _ w4 (h.grow HG4.out))
  have x0 : w4.cell? ⟨w.heap.size, 0, none⟩ = _ := HB0.out.get 0
  rw [hw4] at x0
  clear hw4 e1 e2 e3
  have hf1 : Fence.wide.fn 26 := trivial
  refine (callsIn_wide (n := 9)).1 ?_
  refine callsIn_of_wp_marks Try.func13 rfl trivial ?_ rfl
  simp only [Try.ntmps13, List.size_toArray, List.length_cons, List.length_nil, Nat.reduceAdd, Nat.reduceSub, Array.replicate_succ, Array.replicate_zero, List.push_toArray, List.append_toArray, List.nil_append, List.cons_append]
  gi_wp2_with (gi_at_call 26; rw [← HW4.out]; refine (callsIn_wide.2 HM.out).mono ?_; rintro e w5 ⟨rfl, hg⟩; have HG5 := Lib.hid hg; clear hg x0; have HB2W := Lib.hid (HB2.out.grown HG5.out (by simp)); have HB3W := Lib.hid (HB3.out.grown HG5.out (by simp)); have i2 := HB2W.out.get 0; have i3 := HB3W.out.get 0; have f2 := HB2W.out.free 0; have f3 := HB3W.out.free 0)
  have h5 := Box.past (Box.put HB2W.out 0 (.int .i64 0)) (show w.heap.size + 1 + 1 ≠ w.heap.size + 1 + 1 + 1 by omega) (j := 0) (.bool false)
  have h6 := Box.put (Box.past HB3W.out (show w.heap.size + 1 + 1 + 1 ≠ w.heap.size + 1 + 1 by omega) (j := 0) (.int .i64 0)) 0 (.bool false)
  have h7 := grown_put (j := 0) (grown_put (j := 0) (grown_join HG4.out HG5.out (.inr (by simp))) (.inr (show w.heap.size ≤ w.heap.size + 1 + 1 by omega)) (.int .i64 0)) (.inr (show w.heap.size ≤ w.heap.size + 1 + 1 + 1 by omega)) (.bool false)
  have hc5 := h5.get 0
  have hc6 := h6.get 0
  refine ⟨.tuple #[.int .i64 0, .bool false], ?_, rfl, h7⟩
  clear h5 h6 h7 i2 i3 f2 f3
  generalize (w5.setCell ⟨w.heap.size + 1 + 1, 0, none⟩ (.int .i64 0)).setCell ⟨w.heap.size + 1 + 1 + 1, 0, none⟩ (.bool false) = w7 at *
  simp [results, Try.results13, go_sem, hc5, hc6]
theorem nil6 : NilSays where
  find := fun v a w h _ => noFind v a w h
  add := fun v a w h _ => noAdd v a w h
  len := noLen
  room := noRoom
  longest := noLongest
  labels := noLabels
end Go.Proofs.Ytfemfkiamipipaa
