/-
  Layer 8, the program's own: New, Expand, Permute. · Layer 8, the program's own: run, Slice, Flip. · Layer 8, the program's own: Drop, Window. · Layer 8, the program's own: Reshape. · Layer 8: the program's own view tells what the walks ask of it.
-/
import Derived.Test.YtkpfhjjojchdlaaChd8

/-! Layer 8, the program's own: New, Expand, Permute. -/
section
namespace Go.Proofs.Ytkpfhjjojchdlaa
open Go.ChangeShapes Go.WideShapes Go.ChangeAt Go.RowKit
set_option linter.unusedVariables false
set_option maxRecDepth 100000

theorem cells_three8 {w : World} {b : Nat} {t : TypeId} {x y z : Value} (h : Box w b t #[x, y, z]) : w.cell? ⟨b, 0, none⟩ = some x ∧ w.cell? ⟨b, 1, none⟩ = some y ∧ w.cell? ⟨b, 2, none⟩ = some z :=
  ⟨by rw [h.get]; rfl, by rw [h.get]; rfl, by rw [h.get]; rfl⟩
theorem tail8 {p : Vw × Bool} {w w8 : World} {A8 B8 : Option Addr} {n8 c8 m8 d8 B r : Nat} (h8 : OwnI w8 B A8 n8 c8 p.1.sh) (h8' : OwnI w8 B B8 m8 d8 p.1.st) (hr : r < B) (hw : w.heap.size ≤ r) (hg : w.grownBy w8 none) :
    GaveVQ p w (.returned (.tuple #[.agg #[.slice A8 n8 c8, .slice B8 m8 d8, .int .i64 p.1.off], .bool p.2])) (((w8.setCell ⟨r, 0, none⟩ (.slice A8 n8 c8)).setCell ⟨r, 1, none⟩ (.slice B8 m8 d8)).setCell ⟨r, 2, none⟩ (.int .i64 p.1.off)) :=
  ⟨_, _, _, _, _, _, rfl, (own_three h8 hr _ _ _).lower (by omega), (own_three h8' hr _ _ _).lower (by omega), grown_three hg hw _ _ _⟩
theorem GaveVQ.vp {p : Vw × Bool} {w w' : World} {e : Ending} (h : GaveVQ p w e w') : GaveVP p w e w' := by
  obtain ⟨A, n, c, A', n', c', e1, h1, h2, h3⟩ := h
  exact ⟨A, n, c, A', n', c', e1, h1.numsF, h2.numsF, h3⟩
theorem put_len8 (l : List Int) (i : Nat) (z : Int) : (putL l i z).length ≤ l.length + 1 := by unfold putL; simp; omega
theorem with_len8 (s : List Int) (x N : Int) : (withL s x N).length ≤ s.length + 1 := by
  unfold withL
  split
  · simp; omega
  · simp
theorem right_lens {s t : List Int} {o : Int} (h : rightV ⟨s, t, o⟩ = true) : t.length = s.length ∧ s.length ≤ 6 := ⟨(rightV_all h).2.1, rightV_dims h⟩
set_option maxHeartbeats 2000000 in
theorem own8_new (A : Option Addr) (n c : Nat) (s : List Int) (w : World) (h : NumsF w A n c s) (hn : n ≤ 1048576) : Calls Try.prog 10 #[.slice A n c] w (GaveVQ (newV s) w) := by
  rw [new_fine]
  have HS := Lib.hid (fun w' (hg : w.grownBy w' none) => own7_strides A n c s w' (h.1.grow hg) hn)
  have HCH := Lib.hid (fun w' A2 c2 b (hg : w.grownBy w' none) (ho : OwnI w' b A2 (stridesL s).length c2 (stridesL s)) => own8_changed0 A A2 n c (stridesL s).length c2 s (stridesL s) 0 w' (h.grow hg) ho.numsF hn (by have h1 := strides_len s; rw [h.len] at h1; omega))
  generalize fineV ⟨s, stridesL s, 0⟩ = p at *
  obtain ⟨w1, hw1⟩ : ∃ w1, w1 = w.alloc (.cells #[.slice none 0 0, .slice none 0 0, .int .i64 0] 29) := ⟨_, rfl⟩
  have hb := box8 w 29 #[.slice none 0 0, .slice none 0 0, .int .i64 0]
  rw [← hw1] at hb
  obtain ⟨hy, hg1⟩ := hb
  have HY := Lib.hid hy
  have HG1 := Lib.hid hg1
  have HW1 := Lib.hid hw1
  have HSZ := Lib.hid (show w.heap.size < w1.heap.size from hy.small)
  clear hw1 hy hg1 h
  go_enter Try.func10, Try.ntmps10
  go_upto_region 1 with fail
  rw [← HW1.out]
  go_wp2_with fail
  refine (HS.out _ HG1.out).mono ?_
  rintro e w2 ⟨A2, c2, rfl, ho, hg⟩
  have HO := Lib.hid ho
  have HG12 := Lib.hid hg
  have HG2 := Lib.hid (grown_join HG1.out hg (.inr (by simp)))
  clear ho hg
  go_wp2_with fail
  refine (HCH.out _ A2 c2 _ HG2.out HO.out).mono ?_
  rintro e w8 ⟨A8, n8, c8, B8, m8, d8, rfl, h8, h8', hg8⟩
  obtain ⟨q0, q1, q2, g0, g1, g2, d0, d1, d2⟩ := (HY.out.grown (grown_join HG12.out hg8 (.inr (by simp))) (by simp)).three8 (.slice A8 n8 c8) (.slice B8 m8 d8) (.int .i64 p.1.off)
  have HFIN := Lib.hid (tail8 (p := p) (w := w) (r := w.heap.size) h8 h8' (by have h1 := HSZ.out; have h2 := HG12.out.size; omega) (Nat.le_refl _) (grown_join HG2.out hg8 (.inr (by simp))))
  clear h8 h8' hg8
  go_wp2_with fail
  exact bodyPost_ret (v := .tuple #[.agg #[.slice A8 n8 c8, .slice B8 m8 d8, .int .i64 p.1.off], .bool p.2]) (by simp [results, Try.results10, go_sem, d0, d1, d2]) rfl HFIN.out
set_option maxHeartbeats 4000000 in
theorem own8_expand (A A' : Option Addr) (n c n' c' : Nat) (s t : List Int) (o : Int) (x y : Int) (w : World) (h : NumsF w A n c s) (h' : NumsF w A' n' c' t) (hn : n ≤ 1048576) (hn' : n' ≤ 1048576) :
    Calls Try.prog 28 #[.agg #[.slice A n c, .slice A' n' c', .int .i64 o], .int .i64 x, .int .i64 y] w (GaveVQ (growV ⟨s, t, o⟩ x y) w) := by
  obtain ⟨p, hp⟩ : ∃ p, growV ⟨s, t, o⟩ x y = p := ⟨_, rfl⟩
  rw [hp]
  have HCH : Hid (∀ w4 p1 p2 p3, w.grownBy w4 none → Box w4 p1 3 #[.int .i64 x] → Box w4 p2 3 #[.int .i64 y] → Box w4 p3 3 #[.int .i64 0] → Calls Try.prog 40 #[.agg #[.slice A n c, .slice A' n' c', .int .i64 o], .slice (some ⟨w4.heap.size, 0, none⟩) 1 1] (w4.alloc (.cells #[.func (.func 82) #[] #[.pointer (some ⟨p1, 0, none⟩), .pointer (some ⟨p2, 0, none⟩), .pointer (some ⟨p3, 0, none⟩)]] 72)) (GaveVQ p (w4.alloc (.cells #[.func (.func 82) #[] #[.pointer (some ⟨p1, 0, none⟩), .pointer (some ⟨p2, 0, none⟩), .pointer (some ⟨p3, 0, none⟩)]] 72)))) := Lib.hid fun w4 p1 p2 p3 hg h1 h2 h3 => by
    have hg2 := grown_alloc hg (.cells #[.func (.func 82) #[] #[.pointer (some ⟨p1, 0, none⟩), .pointer (some ⟨p2, 0, none⟩), .pointer (some ⟨p3, 0, none⟩)]] 72)
    rw [← hp, grow_ch]
    exact own8_changed1 A A' n c n' c' s t o w4.heap.size 1 _ _ ⟨withL s x y, putL t x.toNat 0, o⟩ (withB s x y) _ (h.grow hg2) (h'.grow hg2) hn hn' (Box.fresh _ _ _) plain_with (fun hr => does_with (h1.alloc _) (h2.alloc _) (h3.alloc _) (right_lens hr).1 (right_lens hr).2) (fun hr _ => ⟨by have h1 := with_len8 s x y; have h2 := (right_lens hr).2; show (withL s x y).length ≤ _; omega, by have h1 := put_len8 t x.toNat 0; have h2 := right_lens hr; show (putL t x.toNat 0).length ≤ _; omega⟩)
  obtain ⟨w1, hw1⟩ : ∃ w1, w1 = (w.alloc (.cells #[.slice A n c, .slice A' n' c', .int .i64 o] 29)).alloc (.cells #[.slice none 0 0, .slice none 0 0, .int .i64 0] 29) := ⟨_, rfl⟩
  have hb := boxes8 w 29 #[.slice A n c, .slice A' n' c', .int .i64 o] #[.slice none 0 0, .slice none 0 0, .int .i64 0]
  rw [← hw1] at hb
  obtain ⟨hx, hy, hg1⟩ := hb
  have HX := Lib.hid hx
  have HY := Lib.hid hy
  have HG1 := Lib.hid hg1
  have HW1 := Lib.hid hw1
  have HSZ := Lib.hid (show w.heap.size + 1 < w1.heap.size from hy.small)
  clear hw1 hx hy hg1
  have HC := Lib.hid (fun w' (hg : w1.grownBy w' none) => cells_three8 (HX.out.grown hg (by simp)))
  go_enter Try.func28, Try.ntmps28
  go_upto_region 1 with fail
  rw [← HW1.out]
  obtain ⟨x0, x1, x2⟩ := cells_three8 HX.out
  go_region_held3 (fun w' => w'.cell? ⟨w.heap.size, 0, none⟩ = some (.slice A n c) ∧ w'.cell? ⟨w.heap.size, 1, none⟩ = some (.slice A' n' c') ∧ w'.cell? ⟨w.heap.size, 2, none⟩ = some (.int .i64 o)) (first | exact KEEP9.out | exact HC.out _ (by repeat (first | exact HG8.out | exact HG7.out | exact HG6.out | exact HGR.out | exact grown_refl _ _ | refine grown_drew ?_ | refine grown_drewN ?_ _ | refine grown_alloc ?_ _)) | go_keep) (first
    | (go_at_call 40; refine (HCH.out w6 p1 p2 p3 (grown_join HG1.out HG6.out (.inr (by simp))) HB1.out HB2.out HB3.out).mono ?_; rintro e w8 ⟨A8, n8, c8, B8, m8, d8, rfl, h8, h8', hg8⟩; have HG8 : Hid (w1.grownBy w8 none) := Lib.hid (grown_join (grown_alloc HG6.out _) hg8 (.inr (by simp))); obtain ⟨q0, q1, q2, g0, g1, g2, d0, d1, d2⟩ := (HY.out.grown HG8.out (by simp)).three8 (.slice A8 n8 c8) (.slice B8 m8 d8) (.int .i64 p.1.off); have KEEP9 := Lib.hid (cells_three8 (box_three (HX.out.grown HG8.out (by simp)) (g := w.heap.size + 1) (by omega) (.slice A8 n8 c8) (.slice B8 m8 d8) (.int .i64 p.1.off))); have HFIN := Lib.hid (tail8 (p := p) (w := w) (r := w.heap.size + 1) h8 h8' (by have h1 := HSZ.out; have h2 := (HG6.out).size; simp; omega) (by omega) (grown_join HG1.out HG8.out (.inr (by simp)))); clear h8 h8' hg8)
    | (go_at_call 60; refine (own8_with _ _ _ _).mono ?_; rintro e w6 ⟨p1, p2, p3, rfl, hb1, hb2, hb3, hg6⟩; have HB1 := Lib.hid hb1; have HB2 := Lib.hid hb2; have HB3 := Lib.hid hb3; clear hb1 hb2 hb3; have HG6 : Hid (w1.grownBy w6 none) := Lib.hid (grown_join (by repeat (first | exact grown_refl _ _ | exact HGR.out | refine grown_drewN ?_ _ | refine grown_drew ?_ | refine grown_alloc ?_ _)) hg6 (.inr (by simp))); clear hg6))
  all_goals
    go_wp2_with fail
    exact bodyPost_ret (v := .tuple #[.agg #[.slice A8 n8 c8, .slice B8 m8 d8, .int .i64 p.1.off], .bool p.2]) (by simp [results, Try.results28, go_sem, d0, d1, d2]) rfl HFIN.out
set_option maxHeartbeats 4000000 in
theorem own8_permute (A A' : Option Addr) (n c n' c' : Nat) (s t : List Int) (o : Int) (D : Option Addr) (m d : Nat) (q : List Int) (w : World) (h : NumsF w A n c s) (h' : NumsF w A' n' c' t) (hn : n ≤ 1048576) (hn' : n' ≤ 1048576) (h0 : NumsF w D m d q) (hm : m ≤ 1048576) :
    Calls Try.prog 24 #[.agg #[.slice A n c, .slice A' n' c', .int .i64 o], .slice D m d] w (GaveVQ (permV ⟨s, t, o⟩ q) w) := by
  obtain ⟨p, hp⟩ : ∃ p, permV ⟨s, t, o⟩ q = p := ⟨_, rfl⟩
  rw [hp]
  have HCH : Hid (∀ w4 p1, w.grownBy w4 none → Box w4 p1 22 #[.slice D m d] → Calls Try.prog 40 #[.agg #[.slice A n c, .slice A' n' c', .int .i64 o], .slice (some ⟨w4.heap.size, 0, none⟩) 1 1] (w4.alloc (.cells #[.func (.func 77) #[] #[.pointer (some ⟨p1, 0, none⟩)]] 72)) (GaveVQ p (w4.alloc (.cells #[.func (.func 77) #[] #[.pointer (some ⟨p1, 0, none⟩)]] 72)))) := Lib.hid fun w4 p1 hg h1 => by
    have hg2 := grown_alloc hg (.cells #[.func (.func 77) #[] #[.pointer (some ⟨p1, 0, none⟩)]] 72)
    rw [← hp, perm_ch]
    exact own8_changed1 A A' n c n' c' s t o w4.heap.size 1 _ _ ⟨permL s q, q.map (fun a => t.getD a.toNat 0), o⟩ (permB s q) _ (h.grow hg2) (h'.grow hg2) hn hn' (Box.fresh _ _ _) plain_turned (fun hr => does_turned (h1.alloc _) (h0.grow hg2) hm (right_lens hr).1 (right_lens hr).2) (fun hr _ => ⟨by have h1 := (right_lens hr).2; have h2 := h0.len; show (permL s q).length ≤ _; unfold permL; split <;> (simp <;> omega), by have h2 := h0.len; show (q.map _).length ≤ _; rw [List.length_map]; omega⟩)
  obtain ⟨w1, hw1⟩ : ∃ w1, w1 = (w.alloc (.cells #[.slice A n c, .slice A' n' c', .int .i64 o] 29)).alloc (.cells #[.slice none 0 0, .slice none 0 0, .int .i64 0] 29) := ⟨_, rfl⟩
  have hb := boxes8 w 29 #[.slice A n c, .slice A' n' c', .int .i64 o] #[.slice none 0 0, .slice none 0 0, .int .i64 0]
  rw [← hw1] at hb
  obtain ⟨hx, hy, hg1⟩ := hb
  have HX := Lib.hid hx
  have HY := Lib.hid hy
  have HG1 := Lib.hid hg1
  have HW1 := Lib.hid hw1
  have HSZ := Lib.hid (show w.heap.size + 1 < w1.heap.size from hy.small)
  clear hw1 hx hy hg1
  have HC := Lib.hid (fun w' (hg : w1.grownBy w' none) => cells_three8 (HX.out.grown hg (by simp)))
  go_enter Try.func24, Try.ntmps24
  go_upto_region 1 with fail
  rw [← HW1.out]
  obtain ⟨x0, x1, x2⟩ := cells_three8 HX.out
  go_region_held3 (fun w' => w'.cell? ⟨w.heap.size, 0, none⟩ = some (.slice A n c) ∧ w'.cell? ⟨w.heap.size, 1, none⟩ = some (.slice A' n' c') ∧ w'.cell? ⟨w.heap.size, 2, none⟩ = some (.int .i64 o)) (first | exact KEEP9.out | exact HC.out _ (by repeat (first | exact HG8.out | exact HG7.out | exact HG6.out | exact HGR.out | exact grown_refl _ _ | refine grown_drew ?_ | refine grown_drewN ?_ _ | refine grown_alloc ?_ _)) | go_keep) (first
    | (go_at_call 40; refine (HCH.out w6 p1 (grown_join HG1.out HG6.out (.inr (by simp))) HB1.out).mono ?_; rintro e w8 ⟨A8, n8, c8, B8, m8, d8, rfl, h8, h8', hg8⟩; have HG8 : Hid (w1.grownBy w8 none) := Lib.hid (grown_join (grown_alloc HG6.out _) hg8 (.inr (by simp))); obtain ⟨q0, q1, q2, g0, g1, g2, d0, d1, d2⟩ := (HY.out.grown HG8.out (by simp)).three8 (.slice A8 n8 c8) (.slice B8 m8 d8) (.int .i64 p.1.off); have KEEP9 := Lib.hid (cells_three8 (box_three (HX.out.grown HG8.out (by simp)) (g := w.heap.size + 1) (by omega) (.slice A8 n8 c8) (.slice B8 m8 d8) (.int .i64 p.1.off))); have HFIN := Lib.hid (tail8 (p := p) (w := w) (r := w.heap.size + 1) h8 h8' (by have h1 := HSZ.out; have h2 := (HG6.out).size; simp; omega) (by omega) (grown_join HG1.out HG8.out (.inr (by simp)))); clear h8 h8' hg8)
    | (go_at_call 56; refine (own8_turned _ _ _ _).mono ?_; rintro e w6 ⟨p1, rfl, hb1, hg6⟩; have HB1 := Lib.hid hb1; clear hb1; have HG6 : Hid (w1.grownBy w6 none) := Lib.hid (grown_join (by repeat (first | exact grown_refl _ _ | exact HGR.out | refine grown_drewN ?_ _ | refine grown_drew ?_ | refine grown_alloc ?_ _)) hg6 (.inr (by simp))); clear hg6))
  all_goals
    go_wp2_with fail
    exact bodyPost_ret (v := .tuple #[.agg #[.slice A8 n8 c8, .slice B8 m8 d8, .int .i64 p.1.off], .bool p.2]) (by simp [results, Try.results24, go_sem, d0, d1, d2]) rfl HFIN.out
end Go.Proofs.Ytkpfhjjojchdlaa
end

/-! Layer 8, the program's own: run, Slice, Flip. -/
section
namespace Go.Proofs.Ytkpfhjjojchdlaa
open Go.ChangeShapes Go.WideShapes Go.ChangeAt Go.RowKit
set_option linter.unusedVariables false
set_option maxRecDepth 100000

theorem times_both {a z : Int} (h1 : -1048576 ≤ a) (h2 : a ≤ 1048576) (h3 : -1048576 ≤ z) (h4 : z ≤ 1048576) : -1099511627776 ≤ a * z ∧ a * z ≤ 1099511627776 := by
  by_cases h : 0 ≤ a
  · exact times_in h h2 h3 h4
  · have := times_in (a := -a) (z := z) (by omega) (by omega) h3 h4
    rw [Int.neg_mul] at this
    omega
set_option maxHeartbeats 1000000 in
theorem own8_run (l f N p : Int) (w : World) (hl : 0 ≤ l ∧ l ≤ 1048576) (hp : -1048576 ≤ p ∧ p ≤ 1048576) : Calls Try.prog 51 #[.int .i64 l, .int .i64 f, .int .i64 N, .int .i64 p] w fun e w' => e = .returned (.bool (runB l f N p)) ∧ w' = w := by
  by_cases h0 : N < 1
  · have d0 : decide (N < 1) = true := decide_eq_true h0
    by_cases hz : N = 0
    · subst hz
      have HB := Lib.hid (show runB l f 0 p = true from decide_eq_true (.inl rfl))
      go_enter Try.func51, Try.ntmps51
      go_wp2_with fail
      go_ret
      exact ⟨congrArg (fun b => Ending.returned (.bool b)) HB.out.symm, rfl⟩
    · have d1 : (N == 0) = false := by simp [hz]
      have HB := Lib.hid (show runB l f N p = false from decide_eq_false (by omega))
      go_enter Try.func51, Try.ntmps51
      go_wp2_with fail
      go_ret
      exact ⟨congrArg (fun b => Ending.returned (.bool b)) HB.out.symm, rfl⟩
  · have d0 : decide (N < 1) = false := decide_eq_false h0
    by_cases h1 : 1048576 < N
    · have d1 : decide ((1048576 : Int) < N) = true := decide_eq_true h1
      have d2 : (N == 0) = false := by simp; omega
      have HB := Lib.hid (show runB l f N p = false from decide_eq_false (by omega))
      go_enter Try.func51, Try.ntmps51
      go_wp2_with fail
      go_ret
      exact ⟨congrArg (fun b => Ending.returned (.bool b)) HB.out.symm, rfl⟩
    · have d1 : decide ((1048576 : Int) < N) = false := decide_eq_false h1
      by_cases h2 : f < 0
      · have d2 : decide (f < 0) = true := decide_eq_true h2
        have HB := Lib.hid (show runB l f N p = false from decide_eq_false (by omega))
        go_enter Try.func51, Try.ntmps51
        go_wp2_with fail
        go_ret
        exact ⟨congrArg (fun b => Ending.returned (.bool b)) HB.out.symm, rfl⟩
      · have d2 : decide (f < 0) = false := decide_eq_false h2
        by_cases h3 : l ≤ f
        · have d3 : decide (l ≤ f) = true := decide_eq_true h3
          have HB := Lib.hid (show runB l f N p = false from decide_eq_false (by omega))
          go_enter Try.func51, Try.ntmps51
          go_wp2_with fail
          go_ret
          exact ⟨congrArg (fun b => Ending.returned (.bool b)) HB.out.symm, rfl⟩
        · have d3 : decide (l ≤ f) = false := decide_eq_false h3
          have hm := times_both (a := N - 1) (z := p) (by omega) (by omega) hp.1 hp.2
          have HRB := Lib.hid (show runB l f N p = decide (0 ≤ f + (N - 1) * p ∧ f + (N - 1) * p < l) by
            unfold runB
            rw [decide_eq_decide]
            omega)
          have e1 : IntKind.i64.wrap (N - 1) = N - 1 := IntWalk.i64_in _ (by omega)
          have e2 : wrap64 (N - 1) = N - 1 := IntWalk.wrap64_in _ (by omega)
          have e3 : IntKind.i64.wrap ((N - 1) * p) = (N - 1) * p := IntWalk.i64_in _ (by omega)
          have e4 : wrap64 ((N - 1) * p) = (N - 1) * p := IntWalk.wrap64_in _ (by omega)
          have e5 : IntKind.i64.wrap (f + (N - 1) * p) = f + (N - 1) * p := IntWalk.i64_in _ (by omega)
          have e6 : wrap64 (f + (N - 1) * p) = f + (N - 1) * p := IntWalk.wrap64_in _ (by omega)
          by_cases h4 : 0 ≤ f + (N - 1) * p
          · have d4 : decide (0 ≤ f + (N - 1) * p) = true := decide_eq_true h4
            by_cases h5 : f + (N - 1) * p < l
            · have d5 : decide (f + (N - 1) * p < l) = true := decide_eq_true h5
              have HB := Lib.hid (show runB l f N p = true by rw [HRB.out]; exact decide_eq_true ⟨h4, h5⟩)
              clear hm h4 h5
              go_enter Try.func51, Try.ntmps51
              go_wp2_with fail
              go_ret
              exact ⟨congrArg (fun b => Ending.returned (.bool b)) HB.out.symm, rfl⟩
            · have d5 : decide (f + (N - 1) * p < l) = false := decide_eq_false h5
              have HB := Lib.hid (show runB l f N p = false by rw [HRB.out]; exact decide_eq_false fun h => h5 h.2)
              clear hm h4 h5
              go_enter Try.func51, Try.ntmps51
              go_wp2_with fail
              go_ret
              exact ⟨congrArg (fun b => Ending.returned (.bool b)) HB.out.symm, rfl⟩
          · have d4 : decide (0 ≤ f + (N - 1) * p) = false := decide_eq_false h4
            have HB := Lib.hid (show runB l f N p = false by rw [HRB.out]; exact decide_eq_false fun h => h4 h.1)
            clear hm h4
            go_enter Try.func51, Try.ntmps51
            go_wp2_with fail
            go_ret
            exact ⟨congrArg (fun b => Ending.returned (.bool b)) HB.out.symm, rfl⟩
/-! ### Slice -/
set_option maxHeartbeats 8000000 in
theorem own8_slice (A A' : Option Addr) (n c n' c' : Nat) (s t : List Int) (o : Int) (i f N p0 : Int) (w : World) (h : NumsF w A n c s) (h' : NumsF w A' n' c' t) (hn : n ≤ 1048576) (hn' : n' ≤ 1048576) :
    Calls Try.prog 20 #[.agg #[.slice A n c, .slice A' n' c', .int .i64 o], .int .i64 i, .int .i64 f, .int .i64 N, .int .i64 p0] w (GaveVQ (sliceV ⟨s, t, o⟩ i f N p0) w) := by
  obtain ⟨p, hp⟩ : ∃ p, sliceV ⟨s, t, o⟩ i f N p0 = p := ⟨_, rfl⟩
  rw [hp]
  have HAX := Lib.hid (fun w' (hg : w.grownBy w' none) => own8_axes A A' n c n' c' s t o w' (h.grow hg) (h'.grow hg) hn hn')
  have H := Lib.hid h
  have H' := Lib.hid h'
  obtain ⟨w1, hw1⟩ : ∃ w1, w1 = (w.alloc (.cells #[.slice A n c, .slice A' n' c', .int .i64 o] 29)).alloc (.cells #[.slice none 0 0, .slice none 0 0, .int .i64 0] 29) := ⟨_, rfl⟩
  have hb := boxes8 w 29 #[.slice A n c, .slice A' n' c', .int .i64 o] #[.slice none 0 0, .slice none 0 0, .int .i64 0]
  rw [← hw1] at hb
  obtain ⟨hx, hy, hg1⟩ := hb
  have HX := Lib.hid hx
  have HY := Lib.hid hy
  have HG1 := Lib.hid hg1
  have HW1 := Lib.hid hw1
  have HSZ := Lib.hid (show w.heap.size + 1 < w1.heap.size from hy.small)
  clear hw1 hx hy hg1
  have HC := Lib.hid (fun w' (hg : w1.grownBy w' none) => cells_three8 (HX.out.grown hg (by simp)))
  cases ha : axisB ⟨s, t, o⟩ i with
  | false =>
    have HP := Lib.hid (show p = (zeroV, false) by rw [← hp]; exact slice_no_axis ha)
    obtain ⟨L, hL⟩ : ∃ L, axN ⟨s, t, o⟩ i = L := ⟨_, rfl⟩
    obtain ⟨Z, hZ⟩ : ∃ Z, axS ⟨s, t, o⟩ i = Z := ⟨_, rfl⟩
    have HAN := Lib.hid hL
    have HAS := Lib.hid hZ
    have HAB := Lib.hid ha
    clear ha hL hZ hp
    go_enter Try.func20, Try.ntmps20
    go_upto_region 1 with fail
    rw [← HW1.out]
    obtain ⟨x0, x1, x2⟩ := cells_three8 HX.out
    go_wp2_with fail
    refine (HAX.out _ HG1.out).mono ?_
    rintro e w2 ⟨b1, b2, rfl, hax, hg⟩
    have HG12 := Lib.hid hg
    have HAI := Lib.hid (own8_axis b1 b2 _ i w2 hax)
    rw [HAN.out, HAS.out, HAB.out] at HAI
    clear x0 x1 x2 hg hax
    go_wp2_with fail
    refine HAI.out.mono ?_
    rintro e w3 ⟨rfl, hg⟩
    have HGR : Hid (w1.grownBy w3 none) := Lib.hid (grown_join HG12.out hg (.inr (by simp)))
    obtain ⟨x0, x1, x2⟩ := cells_three8 (HX.out.grown HGR.out (by simp))
    obtain ⟨q0, q1, q2, g0, g1, g2, d0, d1, d2⟩ := (HY.out.grown HGR.out (by simp)).three8 (.slice none 0 0) (.slice none 0 0) (.int .i64 0)
    clear hg HAI
    go_wp2_with fail
    exact bodyPost_ret (v := .tuple #[.agg #[.slice none 0 0, .slice none 0 0, .int .i64 0], .bool false]) (by simp [results, Try.results20, go_sem, d0, d1, d2]) rfl (by rw [HP.out]; exact gaveVQ_no rfl (grown_three (grown_join HG1.out HGR.out (.inr (by simp))) (by omega) _ _ _))
  | true =>
    have hax := axis_all ha
    obtain ⟨k, rfl⟩ : ∃ k : Nat, i = (k : Int) := ⟨i.toNat, by omega⟩
    have hks : k < s.length := by have := hax.2.2; dsimp only at this; omega
    have hat := axis_at hax.1 (k := k) hks
    have hrl := right_lens hax.1
    have hlb := rightV_len hax.1 (i := k) hks
    have hzb := rightV_str hax.1 (i := k) hks
    have hoff : 0 ≤ o ∧ o ≤ 16777216 := ⟨(rightV_all hax.1).2.2.1, (rightV_all hax.1).2.2.2.1⟩
    have HK := Lib.hid (show k < s.length ∧ k < t.length by omega)
    have HLN := Lib.hid (show s.length ≤ 1048576 ∧ t.length ≤ 1048576 by omega)
    have HRT := Lib.hid hax.1
    have hgo := fun hf hr => slice_go (v := ⟨s, t, o⟩) (k := k) (f := f) (N := N) (p := p0) ha hf hr
    have hnr := fun hr => slice_no_run (v := ⟨s, t, o⟩) (i := (k : Int)) (f := f) (N := N) (p := p0) hr
    have HAB := Lib.hid ha
    dsimp only at hat hlb hzb hgo hnr
    simp only [Int.toNat_natCast] at hnr
    obtain ⟨L, hL⟩ : ∃ L, s.getD k 0 = L := ⟨_, rfl⟩
    obtain ⟨Z, hZ⟩ : ∃ Z, t.getD k 0 = Z := ⟨_, rfl⟩
    rw [hL] at hat hlb hgo hnr
    rw [hZ] at hat hzb hgo
    have HAN := Lib.hid hat.1
    have HAS := Lib.hid hat.2.1
    have HLB := Lib.hid hlb
    clear hat hax ha hL hZ hks
    cases hf : farB p0 with
    | true =>
      have HP := Lib.hid (show p = (zeroV, false) by rw [← hp]; exact slice_no_far hf)
      have HFB := Lib.hid hf
      clear hf hp hgo hnr
      go_enter Try.func20, Try.ntmps20
      go_upto_region 1 with fail
      rw [← HW1.out]
      obtain ⟨x0, x1, x2⟩ := cells_three8 HX.out
      go_wp2_with fail
      refine (HAX.out _ HG1.out).mono ?_
      rintro e w2 ⟨b1, b2, rfl, hax, hg⟩
      have HG12 := Lib.hid hg
      have HAI := Lib.hid (own8_axis b1 b2 _ (k : Int) w2 hax)
      rw [HAN.out, HAS.out, HAB.out] at HAI
      clear x0 x1 x2 hg hax
      go_wp2_with fail
      refine HAI.out.mono ?_
      rintro e w3 ⟨rfl, hg⟩
      have HGR : Hid (w1.grownBy w3 none) := Lib.hid (grown_join HG12.out hg (.inr (by simp)))
      obtain ⟨x0, x1, x2⟩ := cells_three8 (HX.out.grown HGR.out (by simp))
      obtain ⟨q0, q1, q2, g0, g1, g2, d0, d1, d2⟩ := (HY.out.grown HGR.out (by simp)).three8 (.slice none 0 0) (.slice none 0 0) (.int .i64 0)
      clear hg HAI
      go_wp2_with fail
      refine (own8_beyond p0 _).mono ?_
      rintro e w4 ⟨rfl, rfl⟩
      rw [HFB.out]
      go_wp2_with fail
      exact bodyPost_ret (v := .tuple #[.agg #[.slice none 0 0, .slice none 0 0, .int .i64 0], .bool false]) (by simp [results, Try.results20, go_sem, d0, d1, d2]) rfl (by rw [HP.out]; exact gaveVQ_no rfl (grown_three (grown_join HG1.out HGR.out (.inr (by simp))) (by omega) _ _ _))
    | false =>
      have hpb : -1048576 ≤ p0 ∧ p0 ≤ 1048576 := by unfold farB at hf; rw [decide_eq_false_iff_not] at hf; omega
      have HPB := Lib.hid hpb
      have HFB := Lib.hid hf
      cases hr : runB L f N p0 with
      | false =>
        have HP := Lib.hid (show p = (zeroV, false) by rw [← hp]; exact hnr hr)
        have HRB := Lib.hid hr
        clear hr hf hp hgo hnr
        go_enter Try.func20, Try.ntmps20
        go_upto_region 1 with fail
        rw [← HW1.out]
        obtain ⟨x0, x1, x2⟩ := cells_three8 HX.out
        go_wp2_with fail
        refine (HAX.out _ HG1.out).mono ?_
        rintro e w2 ⟨b1, b2, rfl, hax, hg⟩
        have HG12 := Lib.hid hg
        have HAI := Lib.hid (own8_axis b1 b2 _ (k : Int) w2 hax)
        rw [HAN.out, HAS.out, HAB.out] at HAI
        clear x0 x1 x2 hg hax
        go_wp2_with fail
        refine HAI.out.mono ?_
        rintro e w3 ⟨rfl, hg⟩
        have HGR : Hid (w1.grownBy w3 none) := Lib.hid (grown_join HG12.out hg (.inr (by simp)))
        obtain ⟨x0, x1, x2⟩ := cells_three8 (HX.out.grown HGR.out (by simp))
        obtain ⟨q0, q1, q2, g0, g1, g2, d0, d1, d2⟩ := (HY.out.grown HGR.out (by simp)).three8 (.slice none 0 0) (.slice none 0 0) (.int .i64 0)
        clear hg HAI
        go_wp2_with fail
        refine (own8_beyond p0 _).mono ?_
        rintro e w4 ⟨rfl, rfl⟩
        rw [HFB.out]
        go_wp2_with fail
        refine (own8_run L f N p0 _ HLB.out HPB.out).mono ?_
        rintro e w5 ⟨rfl, rfl⟩
        rw [HRB.out]
        go_wp2_with fail
        exact bodyPost_ret (v := .tuple #[.agg #[.slice none 0 0, .slice none 0 0, .int .i64 0], .bool false]) (by simp [results, Try.results20, go_sem, d0, d1, d2]) rfl (by rw [HP.out]; exact gaveVQ_no rfl (grown_three (grown_join HG1.out HGR.out (.inr (by simp))) (by omega) _ _ _))
      | true =>
        have HRB := Lib.hid hr
        have hz := times_both hpb.1 hpb.2 hzb.1 hzb.2
        have e1 : IntKind.i64.wrap (p0 * Z) = p0 * Z := IntWalk.i64_in _ (by omega)
        have e2 : wrap64 (p0 * Z) = p0 * Z := IntWalk.wrap64_in _ (by omega)
        by_cases h0 : N = 0
        · have HP := Lib.hid (show p = chR ⟨s, t, o⟩ true ⟨s.set k N, t.set k (p0 * Z), o + 0⟩ by
            rw [← hp, hgo hf hr, if_pos h0]
            unfold chR
            rw [HRT.out, Int.add_zero]
            rfl)
          have HI := Lib.hid (show I64 (o + 0) by unfold I64; omega)
          have d3 : (N == 0) = true := by simp [h0]
          have e3 : IntKind.i64.wrap (0 * Z) = 0 := by rw [Int.zero_mul]; exact IntWalk.i64_in _ (by omega)
          have e4 : wrap64 (0 * Z) = 0 := by rw [Int.zero_mul]; exact IntWalk.wrap64_in _ (by omega)
          clear hr hf hp hgo hnr h0 hz hpb hzb hlb hoff hrl
          have HCH : Hid (∀ w4 p1 p2 p3 p4, w.grownBy w4 none → Box w4 p1 3 #[.int .i64 (0)] → Box w4 p2 3 #[.int .i64 (N)] → Box w4 p3 3 #[.int .i64 (p0 * Z)] → Box w4 p4 3 #[.int .i64 (k : Int)] → Calls Try.prog 40 #[.agg #[.slice A n c, .slice A' n' c', .int .i64 o], .slice (some ⟨w4.heap.size, 0, none⟩) 2 2] (w4.alloc (.cells #[.func (.func 75) #[] #[.pointer (some ⟨p1, 0, none⟩)], .func (.func 76) #[] #[.pointer (some ⟨p2, 0, none⟩), .pointer (some ⟨p3, 0, none⟩), .pointer (some ⟨p4, 0, none⟩)]] 72)) (GaveVQ p (w4.alloc (.cells #[.func (.func 75) #[] #[.pointer (some ⟨p1, 0, none⟩)], .func (.func 76) #[] #[.pointer (some ⟨p2, 0, none⟩), .pointer (some ⟨p3, 0, none⟩), .pointer (some ⟨p4, 0, none⟩)]] 72)))) := Lib.hid fun w4 p1 p2 p3 p4 hg h1 h2 h3 h4 => by
            have hg2 := grown_alloc hg (.cells #[.func (.func 75) #[] #[.pointer (some ⟨p1, 0, none⟩)], .func (.func 76) #[] #[.pointer (some ⟨p2, 0, none⟩), .pointer (some ⟨p3, 0, none⟩), .pointer (some ⟨p4, 0, none⟩)]] 72)
            rw [HP.out]
            exact own8_changed2 A A' n c n' c' s t o w4.heap.size 2 _ _ _ _ ⟨s, t, o + 0⟩ ⟨s.set k N, t.set k (p0 * Z), o + 0⟩ (true) _ (H.out.grow hg2) (H'.out.grow hg2) hn hn' (Box.fresh _ _ _) plain_moved plain_laid (fun hr => does_moved (h1.alloc _) (HI.out)) (fun hr => does_laid (h2.alloc _) (h3.alloc _) (h4.alloc _) HK.out.1 HK.out.2 HLN.out) (fun hr _ => ⟨by show (s.set _ _).length ≤ _; rw [List.length_set]; exact HLN.out.1, by show (t.set _ _).length ≤ _; rw [List.length_set]; exact HLN.out.2⟩)
          go_enter Try.func20, Try.ntmps20
          go_upto_region 1 with fail
          rw [← HW1.out]
          obtain ⟨x0, x1, x2⟩ := cells_three8 HX.out
          go_wp2_with fail
          refine (HAX.out _ HG1.out).mono ?_
          rintro e w2 ⟨b1, b2, rfl, hax, hg⟩
          have HG12 := Lib.hid hg
          have HAI := Lib.hid (own8_axis b1 b2 _ (k : Int) w2 hax)
          rw [HAN.out, HAS.out, HAB.out] at HAI
          clear x0 x1 x2 hg hax
          go_wp2_with fail
          refine HAI.out.mono ?_
          rintro e w3 ⟨rfl, hg⟩
          have HGR : Hid (w1.grownBy w3 none) := Lib.hid (grown_join HG12.out hg (.inr (by simp)))
          obtain ⟨x0, x1, x2⟩ := cells_three8 (HX.out.grown HGR.out (by simp))
          obtain ⟨q0, q1, q2, g0, g1, g2, d0, d1, d2⟩ := (HY.out.grown HGR.out (by simp)).three8 (.slice none 0 0) (.slice none 0 0) (.int .i64 0)
          clear hg HAI
          go_wp2_with fail
          refine (own8_beyond p0 _).mono ?_
          rintro e w4 ⟨rfl, rfl⟩
          rw [HFB.out]
          go_wp2_with fail
          refine (own8_run L f N p0 _ HLB.out HPB.out).mono ?_
          rintro e w5 ⟨rfl, rfl⟩
          rw [HRB.out]
          go_upto_region 6 with fail
          go_region_held3 (fun w' => w'.cell? ⟨w.heap.size, 0, none⟩ = some (.slice A n c) ∧ w'.cell? ⟨w.heap.size, 1, none⟩ = some (.slice A' n' c') ∧ w'.cell? ⟨w.heap.size, 2, none⟩ = some (.int .i64 o)) (first | exact KEEP9.out | exact HC.out _ (by repeat (first | exact HG8.out | exact HG7.out | exact HG6.out | exact HGR.out | exact grown_refl _ _ | refine grown_drew ?_ | refine grown_drewN ?_ _ | refine grown_alloc ?_ _)) | go_keep) (first
            | (go_at_call 40; refine (HCH.out w7 p1 p2 p3 p4 (grown_join HG1.out HG7.out (.inr (by simp))) (HB1.out.grown HG67.out (by simp)) HB2.out HB3.out HB4.out).mono ?_; rintro e w8 ⟨A8, n8, c8, B8, m8, d8, rfl, h8, h8', hg8⟩; have HG8 : Hid (w1.grownBy w8 none) := Lib.hid (grown_join (grown_alloc HG7.out _) hg8 (.inr (by simp))); obtain ⟨q0, q1, q2, g0, g1, g2, d0, d1, d2⟩ := (HY.out.grown HG8.out (by simp)).three8 (.slice A8 n8 c8) (.slice B8 m8 d8) (.int .i64 p.1.off); have KEEP9 := Lib.hid (cells_three8 (box_three (HX.out.grown HG8.out (by simp)) (g := w.heap.size + 1) (by omega) (.slice A8 n8 c8) (.slice B8 m8 d8) (.int .i64 p.1.off))); have HFIN := Lib.hid (tail8 (p := p) (w := w) (r := w.heap.size + 1) h8 h8' (by have h1 := HSZ.out; have h2 := (HG7.out).size; simp; omega) (by omega) (grown_join HG1.out HG8.out (.inr (by simp)))); clear h8 h8' hg8)
            | (go_at_call 52; refine (own8_moved _ _).mono ?_; rintro e w6 ⟨p1, rfl, hb1, hg6⟩; have HB1 := Lib.hid hb1; clear hb1; have HG6 : Hid (w1.grownBy w6 none) := Lib.hid (grown_join (by repeat (first | exact grown_refl _ _ | exact HGR.out | refine grown_drewN ?_ _ | refine grown_drew ?_ | refine grown_alloc ?_ _)) hg6 (.inr (by simp))); clear hg6)
            | (go_at_call 53; refine (own8_laid _ _ _ _).mono ?_; rintro e w7 ⟨p2, p3, p4, rfl, hb2, hb3, hb4, hg7⟩; have HB2 := Lib.hid hb2; have HB3 := Lib.hid hb3; have HB4 := Lib.hid hb4; clear hb2 hb3 hb4; have HG67 := Lib.hid hg7; have HG7 : Hid (w1.grownBy w7 none) := Lib.hid (grown_join HG6.out hg7 (.inr (by simp))); clear hg7))
          all_goals
            go_wp2_with fail
            exact bodyPost_ret (v := .tuple #[.agg #[.slice A8 n8 c8, .slice B8 m8 d8, .int .i64 p.1.off], .bool p.2]) (by simp [results, Try.results20, go_sem, d0, d1, d2]) rfl HFIN.out
        · have hfr : 0 ≤ f ∧ f < L := by unfold runB at hr; rw [decide_eq_true_eq] at hr; omega
          have hfz := times_in (a := f) (z := Z) hfr.1 (by omega) hzb.1 hzb.2
          have HP := Lib.hid (show p = chR ⟨s, t, o⟩ true ⟨s.set k N, t.set k (p0 * Z), o + f * Z⟩ by
            rw [← hp, hgo hf hr, if_neg h0]
            unfold chR
            rw [HRT.out]
            rfl)
          have HI := Lib.hid (show I64 (o + f * Z) by unfold I64; omega)
          have d3 : (N == 0) = false := by simp [h0]
          have e3 : IntKind.i64.wrap (f * Z) = f * Z := IntWalk.i64_in _ (by omega)
          have e4 : wrap64 (f * Z) = f * Z := IntWalk.wrap64_in _ (by omega)
          clear hr hf hp hgo hnr h0 hz hpb hzb hlb hoff hrl hfr hfz
          have HCH : Hid (∀ w4 p1 p2 p3 p4, w.grownBy w4 none → Box w4 p1 3 #[.int .i64 (f * Z)] → Box w4 p2 3 #[.int .i64 (N)] → Box w4 p3 3 #[.int .i64 (p0 * Z)] → Box w4 p4 3 #[.int .i64 (k : Int)] → Calls Try.prog 40 #[.agg #[.slice A n c, .slice A' n' c', .int .i64 o], .slice (some ⟨w4.heap.size, 0, none⟩) 2 2] (w4.alloc (.cells #[.func (.func 75) #[] #[.pointer (some ⟨p1, 0, none⟩)], .func (.func 76) #[] #[.pointer (some ⟨p2, 0, none⟩), .pointer (some ⟨p3, 0, none⟩), .pointer (some ⟨p4, 0, none⟩)]] 72)) (GaveVQ p (w4.alloc (.cells #[.func (.func 75) #[] #[.pointer (some ⟨p1, 0, none⟩)], .func (.func 76) #[] #[.pointer (some ⟨p2, 0, none⟩), .pointer (some ⟨p3, 0, none⟩), .pointer (some ⟨p4, 0, none⟩)]] 72)))) := Lib.hid fun w4 p1 p2 p3 p4 hg h1 h2 h3 h4 => by
            have hg2 := grown_alloc hg (.cells #[.func (.func 75) #[] #[.pointer (some ⟨p1, 0, none⟩)], .func (.func 76) #[] #[.pointer (some ⟨p2, 0, none⟩), .pointer (some ⟨p3, 0, none⟩), .pointer (some ⟨p4, 0, none⟩)]] 72)
            rw [HP.out]
            exact own8_changed2 A A' n c n' c' s t o w4.heap.size 2 _ _ _ _ ⟨s, t, o + f * Z⟩ ⟨s.set k N, t.set k (p0 * Z), o + f * Z⟩ (true) _ (H.out.grow hg2) (H'.out.grow hg2) hn hn' (Box.fresh _ _ _) plain_moved plain_laid (fun hr => does_moved (h1.alloc _) (HI.out)) (fun hr => does_laid (h2.alloc _) (h3.alloc _) (h4.alloc _) HK.out.1 HK.out.2 HLN.out) (fun hr _ => ⟨by show (s.set _ _).length ≤ _; rw [List.length_set]; exact HLN.out.1, by show (t.set _ _).length ≤ _; rw [List.length_set]; exact HLN.out.2⟩)
          go_enter Try.func20, Try.ntmps20
          go_upto_region 1 with fail
          rw [← HW1.out]
          obtain ⟨x0, x1, x2⟩ := cells_three8 HX.out
          go_wp2_with fail
          refine (HAX.out _ HG1.out).mono ?_
          rintro e w2 ⟨b1, b2, rfl, hax, hg⟩
          have HG12 := Lib.hid hg
          have HAI := Lib.hid (own8_axis b1 b2 _ (k : Int) w2 hax)
          rw [HAN.out, HAS.out, HAB.out] at HAI
          clear x0 x1 x2 hg hax
          go_wp2_with fail
          refine HAI.out.mono ?_
          rintro e w3 ⟨rfl, hg⟩
          have HGR : Hid (w1.grownBy w3 none) := Lib.hid (grown_join HG12.out hg (.inr (by simp)))
          obtain ⟨x0, x1, x2⟩ := cells_three8 (HX.out.grown HGR.out (by simp))
          obtain ⟨q0, q1, q2, g0, g1, g2, d0, d1, d2⟩ := (HY.out.grown HGR.out (by simp)).three8 (.slice none 0 0) (.slice none 0 0) (.int .i64 0)
          clear hg HAI
          go_wp2_with fail
          refine (own8_beyond p0 _).mono ?_
          rintro e w4 ⟨rfl, rfl⟩
          rw [HFB.out]
          go_wp2_with fail
          refine (own8_run L f N p0 _ HLB.out HPB.out).mono ?_
          rintro e w5 ⟨rfl, rfl⟩
          rw [HRB.out]
          go_upto_region 6 with fail
          go_region_held3 (fun w' => w'.cell? ⟨w.heap.size, 0, none⟩ = some (.slice A n c) ∧ w'.cell? ⟨w.heap.size, 1, none⟩ = some (.slice A' n' c') ∧ w'.cell? ⟨w.heap.size, 2, none⟩ = some (.int .i64 o)) (first | exact KEEP9.out | exact HC.out _ (by repeat (first | exact HG8.out | exact HG7.out | exact HG6.out | exact HGR.out | exact grown_refl _ _ | refine grown_drew ?_ | refine grown_drewN ?_ _ | refine grown_alloc ?_ _)) | go_keep) (first
            | (go_at_call 40; refine (HCH.out w7 p1 p2 p3 p4 (grown_join HG1.out HG7.out (.inr (by simp))) (HB1.out.grown HG67.out (by simp)) HB2.out HB3.out HB4.out).mono ?_; rintro e w8 ⟨A8, n8, c8, B8, m8, d8, rfl, h8, h8', hg8⟩; have HG8 : Hid (w1.grownBy w8 none) := Lib.hid (grown_join (grown_alloc HG7.out _) hg8 (.inr (by simp))); obtain ⟨q0, q1, q2, g0, g1, g2, d0, d1, d2⟩ := (HY.out.grown HG8.out (by simp)).three8 (.slice A8 n8 c8) (.slice B8 m8 d8) (.int .i64 p.1.off); have KEEP9 := Lib.hid (cells_three8 (box_three (HX.out.grown HG8.out (by simp)) (g := w.heap.size + 1) (by omega) (.slice A8 n8 c8) (.slice B8 m8 d8) (.int .i64 p.1.off))); have HFIN := Lib.hid (tail8 (p := p) (w := w) (r := w.heap.size + 1) h8 h8' (by have h1 := HSZ.out; have h2 := (HG7.out).size; simp; omega) (by omega) (grown_join HG1.out HG8.out (.inr (by simp)))); clear h8 h8' hg8)
            | (go_at_call 52; refine (own8_moved _ _).mono ?_; rintro e w6 ⟨p1, rfl, hb1, hg6⟩; have HB1 := Lib.hid hb1; clear hb1; have HG6 : Hid (w1.grownBy w6 none) := Lib.hid (grown_join (by repeat (first | exact grown_refl _ _ | exact HGR.out | refine grown_drewN ?_ _ | refine grown_drew ?_ | refine grown_alloc ?_ _)) hg6 (.inr (by simp))); clear hg6)
            | (go_at_call 53; refine (own8_laid _ _ _ _).mono ?_; rintro e w7 ⟨p2, p3, p4, rfl, hb2, hb3, hb4, hg7⟩; have HB2 := Lib.hid hb2; have HB3 := Lib.hid hb3; have HB4 := Lib.hid hb4; clear hb2 hb3 hb4; have HG67 := Lib.hid hg7; have HG7 : Hid (w1.grownBy w7 none) := Lib.hid (grown_join HG6.out hg7 (.inr (by simp))); clear hg7))
          all_goals
            go_wp2_with fail
            exact bodyPost_ret (v := .tuple #[.agg #[.slice A8 n8 c8, .slice B8 m8 d8, .int .i64 p.1.off], .bool p.2]) (by simp [results, Try.results20, go_sem, d0, d1, d2]) rfl HFIN.out
/-! ### Flip -/
set_option maxHeartbeats 4000000 in
theorem own8_flip (A A' : Option Addr) (n c n' c' : Nat) (s t : List Int) (o : Int) (i : Int) (w : World) (h : NumsF w A n c s) (h' : NumsF w A' n' c' t) (hn : n ≤ 1048576) (hn' : n' ≤ 1048576) :
    Calls Try.prog 22 #[.agg #[.slice A n c, .slice A' n' c', .int .i64 o], .int .i64 i] w (GaveVQ (flipV ⟨s, t, o⟩ i) w) := by
  obtain ⟨L, hL⟩ : ∃ L, axN ⟨s, t, o⟩ i = L := ⟨_, rfl⟩
  obtain ⟨Z, hZ⟩ : ∃ Z, axS ⟨s, t, o⟩ i = Z := ⟨_, rfl⟩
  obtain ⟨B, hB⟩ : ∃ B, axisB ⟨s, t, o⟩ i = B := ⟨_, rfl⟩
  have hlb : 0 ≤ L ∧ L ≤ 1048576 := by
    rw [← hL]
    unfold axN
    split
    · rename_i hh
      have hax := axis_all hh
      exact rightV_len hax.1 (by omega)
    · omega
  have HAN := Lib.hid hL
  have HAS := Lib.hid hZ
  have HAB := Lib.hid hB
  rw [flip_any, hL]
  obtain ⟨p, hp⟩ : ∃ p, sliceV ⟨s, t, o⟩ i (L - 1) L (-1) = p := ⟨_, rfl⟩
  rw [hp]
  have HAX := Lib.hid (fun w' (hg : w.grownBy w' none) => own8_axes A A' n c n' c' s t o w' (h.grow hg) (h'.grow hg) hn hn')
  have HSL := Lib.hid (fun w' (hg : w.grownBy w' none) => own8_slice A A' n c n' c' s t o i (L - 1) L (-1) w' (h.grow hg) (h'.grow hg) hn hn')
  rw [hp] at HSL
  have e1 : IntKind.i64.wrap (L - 1) = L - 1 := IntWalk.i64_in _ (by omega)
  have e2 : wrap64 (L - 1) = L - 1 := IntWalk.wrap64_in _ (by omega)
  clear hL hZ hB hp hlb
  obtain ⟨w1, hw1⟩ : ∃ w1, w1 = (w.alloc (.cells #[.slice A n c, .slice A' n' c', .int .i64 o] 29)).alloc (.cells #[.slice none 0 0, .slice none 0 0, .int .i64 0] 29) := ⟨_, rfl⟩
  have hb := boxes8 w 29 #[.slice A n c, .slice A' n' c', .int .i64 o] #[.slice none 0 0, .slice none 0 0, .int .i64 0]
  rw [← hw1] at hb
  obtain ⟨hx, hy, hg1⟩ := hb
  have HX := Lib.hid hx
  have HY := Lib.hid hy
  have HG1 := Lib.hid hg1
  have HW1 := Lib.hid hw1
  have HSZ := Lib.hid (show w.heap.size + 1 < w1.heap.size from hy.small)
  clear hw1 hx hy hg1
  have HC := Lib.hid (fun w' (hg : w1.grownBy w' none) => cells_three8 (HX.out.grown hg (by simp)))
  go_enter Try.func22, Try.ntmps22
  go_upto_region 1 with fail
  rw [← HW1.out]
  obtain ⟨x0, x1, x2⟩ := cells_three8 HX.out
  go_wp2_with fail
  refine (HAX.out _ HG1.out).mono ?_
  rintro e w2 ⟨b1, b2, rfl, hax, hg⟩
  have HG12 := Lib.hid hg
  have HAI := Lib.hid (own8_axis b1 b2 _ i w2 hax)
  rw [HAN.out, HAS.out, HAB.out] at HAI
  clear x0 x1 x2 hg hax
  go_wp2_with fail
  refine HAI.out.mono ?_
  rintro e w3 ⟨rfl, hg⟩
  have HGR : Hid (w1.grownBy w3 none) := Lib.hid (grown_join HG12.out hg (.inr (by simp)))
  obtain ⟨x0, x1, x2⟩ := cells_three8 (HX.out.grown HGR.out (by simp))
  obtain ⟨q0, q1, q2, g0, g1, g2, d0, d1, d2⟩ := (HY.out.grown HGR.out (by simp)).three8 (.slice none 0 0) (.slice none 0 0) (.int .i64 0)
  clear hg HAI
  clear q0 q1 q2 g0 g1 g2 d0 d1 d2
  go_wp2_with fail
  refine (HSL.out _ (grown_join HG1.out HGR.out (.inr (by simp)))).mono ?_
  rintro e w8 ⟨A8, n8, c8, B8, m8, d8, rfl, h8, h8', hg8⟩
  have HG8 : Hid (w1.grownBy w8 none) := Lib.hid (grown_join HGR.out hg8 (.inr (by simp)))
  obtain ⟨q0, q1, q2, g0, g1, g2, d0, d1, d2⟩ := (HY.out.grown HG8.out (by simp)).three8 (.slice A8 n8 c8) (.slice B8 m8 d8) (.int .i64 p.1.off)
  have HFIN := Lib.hid (tail8 (p := p) (w := w) (r := w.heap.size + 1) h8 h8' (by have h1 := HSZ.out; have h2 := HGR.out.size; omega) (by omega) (grown_join HG1.out HG8.out (.inr (by simp))))
  clear h8 h8' hg8 x0 x1 x2
  go_wp2_with fail
  exact bodyPost_ret (v := .tuple #[.agg #[.slice A8 n8 c8, .slice B8 m8 d8, .int .i64 p.1.off], .bool p.2]) (by simp [results, Try.results22, go_sem, d0, d1, d2]) rfl HFIN.out
end Go.Proofs.Ytkpfhjjojchdlaa
end

/-! Layer 8, the program's own: Drop, Window. -/
section
namespace Go.Proofs.Ytkpfhjjojchdlaa
open Go.ChangeShapes Go.WideShapes Go.ChangeAt Go.RowKit
set_option linter.unusedVariables false
set_option maxRecDepth 100000

theorem without_len8 (s : List Int) (x : Int) : (withoutL s x).length ≤ s.length := by
  unfold withoutL
  split
  · simp; omega
  · simp
set_option maxHeartbeats 8000000 in
theorem own8_drop (A A' : Option Addr) (n c n' c' : Nat) (s t : List Int) (o : Int) (i x : Int) (w : World) (h : NumsF w A n c s) (h' : NumsF w A' n' c' t) (hn : n ≤ 1048576) (hn' : n' ≤ 1048576) :
    Calls Try.prog 26 #[.agg #[.slice A n c, .slice A' n' c', .int .i64 o], .int .i64 i, .int .i64 x] w (GaveVQ (dropV ⟨s, t, o⟩ i x) w) := by
  obtain ⟨p, hp⟩ : ∃ p, dropV ⟨s, t, o⟩ i x = p := ⟨_, rfl⟩
  rw [hp]
  have HAX := Lib.hid (fun w' (hg : w.grownBy w' none) => own8_axes A A' n c n' c' s t o w' (h.grow hg) (h'.grow hg) hn hn')
  have H := Lib.hid h
  have H' := Lib.hid h'
  obtain ⟨w1, hw1⟩ : ∃ w1, w1 = (w.alloc (.cells #[.slice A n c, .slice A' n' c', .int .i64 o] 29)).alloc (.cells #[.slice none 0 0, .slice none 0 0, .int .i64 0] 29) := ⟨_, rfl⟩
  have hb := boxes8 w 29 #[.slice A n c, .slice A' n' c', .int .i64 o] #[.slice none 0 0, .slice none 0 0, .int .i64 0]
  rw [← hw1] at hb
  obtain ⟨hx, hy, hg1⟩ := hb
  have HX := Lib.hid hx
  have HY := Lib.hid hy
  have HG1 := Lib.hid hg1
  have HW1 := Lib.hid hw1
  have HSZ := Lib.hid (show w.heap.size + 1 < w1.heap.size from hy.small)
  clear hw1 hx hy hg1
  have HC := Lib.hid (fun w' (hg : w1.grownBy w' none) => cells_three8 (HX.out.grown hg (by simp)))
  cases ha : axisB ⟨s, t, o⟩ i with
  | false =>
    have HP := Lib.hid (show p = (zeroV, false) by rw [← hp]; exact drop_no (by rw [ha]; rfl))
    obtain ⟨L, hL⟩ : ∃ L, axN ⟨s, t, o⟩ i = L := ⟨_, rfl⟩
    obtain ⟨Z, hZ⟩ : ∃ Z, axS ⟨s, t, o⟩ i = Z := ⟨_, rfl⟩
    have HAN := Lib.hid hL
    have HAS := Lib.hid hZ
    have HAB := Lib.hid ha
    clear ha hL hZ hp
    go_enter Try.func26, Try.ntmps26
    go_upto_region 1 with fail
    rw [← HW1.out]
    obtain ⟨x0, x1, x2⟩ := cells_three8 HX.out
    go_wp2_with fail
    refine (HAX.out _ HG1.out).mono ?_
    rintro e w2 ⟨b1, b2, rfl, hax, hg⟩
    have HG12 := Lib.hid hg
    have HAI := Lib.hid (own8_axis b1 b2 _ i w2 hax)
    rw [HAN.out, HAS.out, HAB.out] at HAI
    clear x0 x1 x2 hg hax
    go_wp2_with fail
    refine HAI.out.mono ?_
    rintro e w3 ⟨rfl, hg⟩
    have HGR : Hid (w1.grownBy w3 none) := Lib.hid (grown_join HG12.out hg (.inr (by simp)))
    obtain ⟨x0, x1, x2⟩ := cells_three8 (HX.out.grown HGR.out (by simp))
    obtain ⟨q0, q1, q2, g0, g1, g2, d0, d1, d2⟩ := (HY.out.grown HGR.out (by simp)).three8 (.slice none 0 0) (.slice none 0 0) (.int .i64 0)
    clear hg HAI
    go_wp2_with fail
    exact bodyPost_ret (v := .tuple #[.agg #[.slice none 0 0, .slice none 0 0, .int .i64 0], .bool false]) (by simp [results, Try.results26, go_sem, d0, d1, d2]) rfl (by rw [HP.out]; exact gaveVQ_no rfl (grown_three (grown_join HG1.out HGR.out (.inr (by simp))) (by omega) _ _ _))
  | true =>
    have hax := axis_all ha
    obtain ⟨k, rfl⟩ : ∃ k : Nat, i = (k : Int) := ⟨i.toNat, by omega⟩
    have hks : k < s.length := by have := hax.2.2; dsimp only at this; omega
    have hat := axis_at hax.1 (k := k) hks
    have hrl := right_lens hax.1
    have hlb := rightV_len hax.1 (i := k) hks
    have hzb := rightV_str hax.1 (i := k) hks
    have hoff : 0 ≤ o ∧ o ≤ 16777216 := ⟨(rightV_all hax.1).2.2.1, (rightV_all hax.1).2.2.2.1⟩
    have HK := Lib.hid (show k < s.length ∧ k < t.length by omega)
    have HLN := Lib.hid (show s.length ≤ 1048576 ∧ t.length ≤ 1048576 by omega)
    have HEQ := Lib.hid hrl
    have hgo := fun hx => drop_go (v := ⟨s, t, o⟩) (k := k) (x := x) ha hx
    have hno := fun hx : decide (0 ≤ x ∧ x < s.getD k 0) = false => drop_no (v := ⟨s, t, o⟩) (i := (k : Int)) (x := x) (by rw [ha, Bool.true_and]; exact hx)
    have HAB := Lib.hid ha
    dsimp only at hat hlb hzb hgo
    obtain ⟨L, hL⟩ : ∃ L, s.getD k 0 = L := ⟨_, rfl⟩
    obtain ⟨Z, hZ⟩ : ∃ Z, t.getD k 0 = Z := ⟨_, rfl⟩
    rw [hL] at hat hlb hgo hno
    rw [hZ] at hat hzb hgo
    have HAN := Lib.hid hat.1
    have HAS := Lib.hid hat.2.1
    clear hat hax ha hL hZ hks
    by_cases hx0 : x < 0
    · have HP := Lib.hid (show p = (zeroV, false) by rw [← hp]; exact hno (decide_eq_false (by omega)))
      have e0 : decide (x < 0) = true := decide_eq_true hx0
      clear hp hgo hno
      go_enter Try.func26, Try.ntmps26
      go_upto_region 1 with fail
      rw [← HW1.out]
      obtain ⟨x0, x1, x2⟩ := cells_three8 HX.out
      go_wp2_with fail
      refine (HAX.out _ HG1.out).mono ?_
      rintro e w2 ⟨b1, b2, rfl, hax, hg⟩
      have HG12 := Lib.hid hg
      have HAI := Lib.hid (own8_axis b1 b2 _ (k : Int) w2 hax)
      rw [HAN.out, HAS.out, HAB.out] at HAI
      clear x0 x1 x2 hg hax
      go_wp2_with fail
      refine HAI.out.mono ?_
      rintro e w3 ⟨rfl, hg⟩
      have HGR : Hid (w1.grownBy w3 none) := Lib.hid (grown_join HG12.out hg (.inr (by simp)))
      obtain ⟨x0, x1, x2⟩ := cells_three8 (HX.out.grown HGR.out (by simp))
      obtain ⟨q0, q1, q2, g0, g1, g2, d0, d1, d2⟩ := (HY.out.grown HGR.out (by simp)).three8 (.slice none 0 0) (.slice none 0 0) (.int .i64 0)
      clear hg HAI
      go_wp2_with fail
      exact bodyPost_ret (v := .tuple #[.agg #[.slice none 0 0, .slice none 0 0, .int .i64 0], .bool false]) (by simp [results, Try.results26, go_sem, d0, d1, d2]) rfl (by rw [HP.out]; exact gaveVQ_no rfl (grown_three (grown_join HG1.out HGR.out (.inr (by simp))) (by omega) _ _ _))
    · have e0 : decide (x < 0) = false := decide_eq_false hx0
      by_cases hx1 : L ≤ x
      · have HP := Lib.hid (show p = (zeroV, false) by rw [← hp]; exact hno (decide_eq_false (by omega)))
        have e1 : decide (L ≤ x) = true := decide_eq_true hx1
        clear hp hgo hno
        go_enter Try.func26, Try.ntmps26
        go_upto_region 1 with fail
        rw [← HW1.out]
        obtain ⟨x0, x1, x2⟩ := cells_three8 HX.out
        go_wp2_with fail
        refine (HAX.out _ HG1.out).mono ?_
        rintro e w2 ⟨b1, b2, rfl, hax, hg⟩
        have HG12 := Lib.hid hg
        have HAI := Lib.hid (own8_axis b1 b2 _ (k : Int) w2 hax)
        rw [HAN.out, HAS.out, HAB.out] at HAI
        clear x0 x1 x2 hg hax
        go_wp2_with fail
        refine HAI.out.mono ?_
        rintro e w3 ⟨rfl, hg⟩
        have HGR : Hid (w1.grownBy w3 none) := Lib.hid (grown_join HG12.out hg (.inr (by simp)))
        obtain ⟨x0, x1, x2⟩ := cells_three8 (HX.out.grown HGR.out (by simp))
        obtain ⟨q0, q1, q2, g0, g1, g2, d0, d1, d2⟩ := (HY.out.grown HGR.out (by simp)).three8 (.slice none 0 0) (.slice none 0 0) (.int .i64 0)
        clear hg HAI
        go_wp2_with fail
        exact bodyPost_ret (v := .tuple #[.agg #[.slice none 0 0, .slice none 0 0, .int .i64 0], .bool false]) (by simp [results, Try.results26, go_sem, d0, d1, d2]) rfl (by rw [HP.out]; exact gaveVQ_no rfl (grown_three (grown_join HG1.out HGR.out (.inr (by simp))) (by omega) _ _ _))
      · have e1 : decide (L ≤ x) = false := decide_eq_false hx1
        have HP := Lib.hid (hp.symm.trans (hgo (by omega)))
        have hz := times_in (a := x) (z := Z) (by omega) (by omega) hzb.1 hzb.2
        have HI := Lib.hid (show I64 (o + x * Z) by unfold I64; omega)
        have e2 : IntKind.i64.wrap (x * Z) = x * Z := IntWalk.i64_in _ (by omega)
        have e3 : wrap64 (x * Z) = x * Z := IntWalk.wrap64_in _ (by omega)
        clear hz
        clear hp hgo hno hx0 hx1 hlb hzb hoff hrl
        have HCH : Hid (∀ w4 p1 p2, w.grownBy w4 none → Box w4 p1 3 #[.int .i64 (x * Z)] → Box w4 p2 3 #[.int .i64 (k : Int)] → Calls Try.prog 40 #[.agg #[.slice A n c, .slice A' n' c', .int .i64 o], .slice (some ⟨w4.heap.size, 0, none⟩) 2 2] (w4.alloc (.cells #[.func (.func 75) #[] #[.pointer (some ⟨p1, 0, none⟩)], .func (.func 79) #[] #[.pointer (some ⟨p2, 0, none⟩)]] 72)) (GaveVQ p (w4.alloc (.cells #[.func (.func 75) #[] #[.pointer (some ⟨p1, 0, none⟩)], .func (.func 79) #[] #[.pointer (some ⟨p2, 0, none⟩)]] 72)))) := Lib.hid fun w4 p1 p2 hg h1 h2 => by
          have hg2 := grown_alloc hg (.cells #[.func (.func 75) #[] #[.pointer (some ⟨p1, 0, none⟩)], .func (.func 79) #[] #[.pointer (some ⟨p2, 0, none⟩)]] 72)
          rw [HP.out]
          exact own8_changed2 A A' n c n' c' s t o w4.heap.size 2 _ _ _ _ ⟨s, t, o + x * Z⟩ ⟨withoutL s (k : Int), t.take k ++ t.drop (k + 1), o + x * Z⟩ (withoutB s (k : Int)) _ (H.out.grow hg2) (H'.out.grow hg2) hn hn' (Box.fresh _ _ _) plain_moved plain_without (fun hr => does_moved (h1.alloc _) (HI.out)) (fun hr => does_without (h2.alloc _) HEQ.out.1 HEQ.out.2) (fun hr _ => ⟨by have h1 := without_len8 s (k : Int); have h2 := HLN.out; show (withoutL s (k : Int)).length ≤ _; omega, by have h2 := HLN.out; show (t.take k ++ t.drop (k + 1)).length ≤ _; simp; omega⟩)
        go_enter Try.func26, Try.ntmps26
        go_upto_region 1 with fail
        rw [← HW1.out]
        obtain ⟨x0, x1, x2⟩ := cells_three8 HX.out
        go_wp2_with fail
        refine (HAX.out _ HG1.out).mono ?_
        rintro e w2 ⟨b1, b2, rfl, hax, hg⟩
        have HG12 := Lib.hid hg
        have HAI := Lib.hid (own8_axis b1 b2 _ (k : Int) w2 hax)
        rw [HAN.out, HAS.out, HAB.out] at HAI
        clear x0 x1 x2 hg hax
        go_wp2_with fail
        refine HAI.out.mono ?_
        rintro e w3 ⟨rfl, hg⟩
        have HGR : Hid (w1.grownBy w3 none) := Lib.hid (grown_join HG12.out hg (.inr (by simp)))
        obtain ⟨x0, x1, x2⟩ := cells_three8 (HX.out.grown HGR.out (by simp))
        obtain ⟨q0, q1, q2, g0, g1, g2, d0, d1, d2⟩ := (HY.out.grown HGR.out (by simp)).three8 (.slice none 0 0) (.slice none 0 0) (.int .i64 0)
        clear hg HAI
        go_upto_region 4 with fail
        go_region_held3 (fun w' => w'.cell? ⟨w.heap.size, 0, none⟩ = some (.slice A n c) ∧ w'.cell? ⟨w.heap.size, 1, none⟩ = some (.slice A' n' c') ∧ w'.cell? ⟨w.heap.size, 2, none⟩ = some (.int .i64 o)) (first | exact KEEP9.out | exact HC.out _ (by repeat (first | exact HG8.out | exact HG7.out | exact HG6.out | exact HGR.out | exact grown_refl _ _ | refine grown_drew ?_ | refine grown_drewN ?_ _ | refine grown_alloc ?_ _)) | go_keep) (first
          | (go_at_call 40; refine (HCH.out w7 p1 p2 (grown_join HG1.out HG7.out (.inr (by simp))) (HB1.out.grown HG67.out (by simp)) HB2.out).mono ?_; rintro e w8 ⟨A8, n8, c8, B8, m8, d8, rfl, h8, h8', hg8⟩; have HG8 : Hid (w1.grownBy w8 none) := Lib.hid (grown_join (grown_alloc HG7.out _) hg8 (.inr (by simp))); obtain ⟨q0, q1, q2, g0, g1, g2, d0, d1, d2⟩ := (HY.out.grown HG8.out (by simp)).three8 (.slice A8 n8 c8) (.slice B8 m8 d8) (.int .i64 p.1.off); have KEEP9 := Lib.hid (cells_three8 (box_three (HX.out.grown HG8.out (by simp)) (g := w.heap.size + 1) (by omega) (.slice A8 n8 c8) (.slice B8 m8 d8) (.int .i64 p.1.off))); have HFIN := Lib.hid (tail8 (p := p) (w := w) (r := w.heap.size + 1) h8 h8' (by have h1 := HSZ.out; have h2 := (HG7.out).size; simp; omega) (by omega) (grown_join HG1.out HG8.out (.inr (by simp)))); clear h8 h8' hg8)
          | (go_at_call 52; refine (own8_moved _ _).mono ?_; rintro e w6 ⟨p1, rfl, hb1, hg6⟩; have HB1 := Lib.hid hb1; clear hb1; have HG6 : Hid (w1.grownBy w6 none) := Lib.hid (grown_join (by repeat (first | exact grown_refl _ _ | exact HGR.out | refine grown_drewN ?_ _ | refine grown_drew ?_ | refine grown_alloc ?_ _)) hg6 (.inr (by simp))); clear hg6)
          | (go_at_call 58; refine (own8_without _ _).mono ?_; rintro e w7 ⟨p2, rfl, hb2, hg7⟩; have HB2 := Lib.hid hb2; clear hb2; have HG67 := Lib.hid hg7; have HG7 : Hid (w1.grownBy w7 none) := Lib.hid (grown_join HG6.out hg7 (.inr (by simp))); clear hg7))
        all_goals
          go_wp2_with fail
          exact bodyPost_ret (v := .tuple #[.agg #[.slice A8 n8 c8, .slice B8 m8 d8, .int .i64 p.1.off], .bool p.2]) (by simp [results, Try.results26, go_sem, d0, d1, d2]) rfl HFIN.out
set_option maxHeartbeats 8000000 in
theorem own8_window (A A' : Option Addr) (n c n' c' : Nat) (s t : List Int) (o : Int) (i x : Int) (w : World) (h : NumsF w A n c s) (h' : NumsF w A' n' c' t) (hn : n ≤ 1048576) (hn' : n' ≤ 1048576) :
    Calls Try.prog 30 #[.agg #[.slice A n c, .slice A' n' c', .int .i64 o], .int .i64 i, .int .i64 x] w (GaveVQ (windowV ⟨s, t, o⟩ i x) w) := by
  obtain ⟨p, hp⟩ : ∃ p, windowV ⟨s, t, o⟩ i x = p := ⟨_, rfl⟩
  rw [hp]
  have HAX := Lib.hid (fun w' (hg : w.grownBy w' none) => own8_axes A A' n c n' c' s t o w' (h.grow hg) (h'.grow hg) hn hn')
  have H := Lib.hid h
  have H' := Lib.hid h'
  obtain ⟨w1, hw1⟩ : ∃ w1, w1 = (w.alloc (.cells #[.slice A n c, .slice A' n' c', .int .i64 o] 29)).alloc (.cells #[.slice none 0 0, .slice none 0 0, .int .i64 0] 29) := ⟨_, rfl⟩
  have hb := boxes8 w 29 #[.slice A n c, .slice A' n' c', .int .i64 o] #[.slice none 0 0, .slice none 0 0, .int .i64 0]
  rw [← hw1] at hb
  obtain ⟨hx, hy, hg1⟩ := hb
  have HX := Lib.hid hx
  have HY := Lib.hid hy
  have HG1 := Lib.hid hg1
  have HW1 := Lib.hid hw1
  have HSZ := Lib.hid (show w.heap.size + 1 < w1.heap.size from hy.small)
  clear hw1 hx hy hg1
  have HC := Lib.hid (fun w' (hg : w1.grownBy w' none) => cells_three8 (HX.out.grown hg (by simp)))
  cases ha : axisB ⟨s, t, o⟩ i with
  | false =>
    have HP := Lib.hid (show p = (zeroV, false) by rw [← hp]; exact window_no (by rw [ha]; rfl))
    obtain ⟨L, hL⟩ : ∃ L, axN ⟨s, t, o⟩ i = L := ⟨_, rfl⟩
    obtain ⟨Z, hZ⟩ : ∃ Z, axS ⟨s, t, o⟩ i = Z := ⟨_, rfl⟩
    have HAN := Lib.hid hL
    have HAS := Lib.hid hZ
    have HAB := Lib.hid ha
    clear ha hL hZ hp
    go_enter Try.func30, Try.ntmps30
    go_upto_region 1 with fail
    rw [← HW1.out]
    obtain ⟨x0, x1, x2⟩ := cells_three8 HX.out
    go_wp2_with fail
    refine (HAX.out _ HG1.out).mono ?_
    rintro e w2 ⟨b1, b2, rfl, hax, hg⟩
    have HG12 := Lib.hid hg
    have HAI := Lib.hid (own8_axis b1 b2 _ i w2 hax)
    rw [HAN.out, HAS.out, HAB.out] at HAI
    clear x0 x1 x2 hg hax
    go_wp2_with fail
    refine HAI.out.mono ?_
    rintro e w3 ⟨rfl, hg⟩
    have HGR : Hid (w1.grownBy w3 none) := Lib.hid (grown_join HG12.out hg (.inr (by simp)))
    obtain ⟨x0, x1, x2⟩ := cells_three8 (HX.out.grown HGR.out (by simp))
    obtain ⟨q0, q1, q2, g0, g1, g2, d0, d1, d2⟩ := (HY.out.grown HGR.out (by simp)).three8 (.slice none 0 0) (.slice none 0 0) (.int .i64 0)
    clear hg HAI
    go_wp2_with fail
    exact bodyPost_ret (v := .tuple #[.agg #[.slice none 0 0, .slice none 0 0, .int .i64 0], .bool false]) (by simp [results, Try.results30, go_sem, d0, d1, d2]) rfl (by rw [HP.out]; exact gaveVQ_no rfl (grown_three (grown_join HG1.out HGR.out (.inr (by simp))) (by omega) _ _ _))
  | true =>
    have hax := axis_all ha
    obtain ⟨k, rfl⟩ : ∃ k : Nat, i = (k : Int) := ⟨i.toNat, by omega⟩
    have hks : k < s.length := by have := hax.2.2; dsimp only at this; omega
    have hat := axis_at hax.1 (k := k) hks
    have hrl := right_lens hax.1
    have hlb := rightV_len hax.1 (i := k) hks
    have hzb := rightV_str hax.1 (i := k) hks
    have hoff : 0 ≤ o ∧ o ≤ 16777216 := ⟨(rightV_all hax.1).2.2.1, (rightV_all hax.1).2.2.2.1⟩
    have HK := Lib.hid (show k < s.length ∧ k < t.length by omega)
    have HLN := Lib.hid (show s.length ≤ 1048576 ∧ t.length ≤ 1048576 by omega)
    have HEQ := Lib.hid hrl
    have hgo := fun hx => window_go (v := ⟨s, t, o⟩) (k := k) (x := x) ha hx
    have hno := fun hx : decide (1 ≤ x ∧ x ≤ s.getD k 0) = false => window_no (v := ⟨s, t, o⟩) (i := (k : Int)) (x := x) (by rw [ha, Bool.true_and]; exact hx)
    have HAB := Lib.hid ha
    dsimp only at hat hlb hzb hgo
    obtain ⟨L, hL⟩ : ∃ L, s.getD k 0 = L := ⟨_, rfl⟩
    obtain ⟨Z, hZ⟩ : ∃ Z, t.getD k 0 = Z := ⟨_, rfl⟩
    rw [hL] at hat hlb hgo hno
    rw [hZ] at hat hzb hgo
    have HAN := Lib.hid hat.1
    have HAS := Lib.hid hat.2.1
    clear hat hax ha hL hZ hks
    by_cases hx0 : x < 1
    · have HP := Lib.hid (show p = (zeroV, false) by rw [← hp]; exact hno (decide_eq_false (by omega)))
      have e0 : decide (x < 1) = true := decide_eq_true hx0
      clear hp hgo hno
      go_enter Try.func30, Try.ntmps30
      go_upto_region 1 with fail
      rw [← HW1.out]
      obtain ⟨x0, x1, x2⟩ := cells_three8 HX.out
      go_wp2_with fail
      refine (HAX.out _ HG1.out).mono ?_
      rintro e w2 ⟨b1, b2, rfl, hax, hg⟩
      have HG12 := Lib.hid hg
      have HAI := Lib.hid (own8_axis b1 b2 _ (k : Int) w2 hax)
      rw [HAN.out, HAS.out, HAB.out] at HAI
      clear x0 x1 x2 hg hax
      go_wp2_with fail
      refine HAI.out.mono ?_
      rintro e w3 ⟨rfl, hg⟩
      have HGR : Hid (w1.grownBy w3 none) := Lib.hid (grown_join HG12.out hg (.inr (by simp)))
      obtain ⟨x0, x1, x2⟩ := cells_three8 (HX.out.grown HGR.out (by simp))
      obtain ⟨q0, q1, q2, g0, g1, g2, d0, d1, d2⟩ := (HY.out.grown HGR.out (by simp)).three8 (.slice none 0 0) (.slice none 0 0) (.int .i64 0)
      clear hg HAI
      go_wp2_with fail
      exact bodyPost_ret (v := .tuple #[.agg #[.slice none 0 0, .slice none 0 0, .int .i64 0], .bool false]) (by simp [results, Try.results30, go_sem, d0, d1, d2]) rfl (by rw [HP.out]; exact gaveVQ_no rfl (grown_three (grown_join HG1.out HGR.out (.inr (by simp))) (by omega) _ _ _))
    · have e0 : decide (x < 1) = false := decide_eq_false hx0
      by_cases hx1 : L < x
      · have HP := Lib.hid (show p = (zeroV, false) by rw [← hp]; exact hno (decide_eq_false (by omega)))
        have e1 : decide (L < x) = true := decide_eq_true hx1
        clear hp hgo hno
        go_enter Try.func30, Try.ntmps30
        go_upto_region 1 with fail
        rw [← HW1.out]
        obtain ⟨x0, x1, x2⟩ := cells_three8 HX.out
        go_wp2_with fail
        refine (HAX.out _ HG1.out).mono ?_
        rintro e w2 ⟨b1, b2, rfl, hax, hg⟩
        have HG12 := Lib.hid hg
        have HAI := Lib.hid (own8_axis b1 b2 _ (k : Int) w2 hax)
        rw [HAN.out, HAS.out, HAB.out] at HAI
        clear x0 x1 x2 hg hax
        go_wp2_with fail
        refine HAI.out.mono ?_
        rintro e w3 ⟨rfl, hg⟩
        have HGR : Hid (w1.grownBy w3 none) := Lib.hid (grown_join HG12.out hg (.inr (by simp)))
        obtain ⟨x0, x1, x2⟩ := cells_three8 (HX.out.grown HGR.out (by simp))
        obtain ⟨q0, q1, q2, g0, g1, g2, d0, d1, d2⟩ := (HY.out.grown HGR.out (by simp)).three8 (.slice none 0 0) (.slice none 0 0) (.int .i64 0)
        clear hg HAI
        go_wp2_with fail
        exact bodyPost_ret (v := .tuple #[.agg #[.slice none 0 0, .slice none 0 0, .int .i64 0], .bool false]) (by simp [results, Try.results30, go_sem, d0, d1, d2]) rfl (by rw [HP.out]; exact gaveVQ_no rfl (grown_three (grown_join HG1.out HGR.out (.inr (by simp))) (by omega) _ _ _))
      · have e1 : decide (L < x) = false := decide_eq_false hx1
        have HP := Lib.hid (hp.symm.trans (hgo (by omega)))
        have HEQ2 := Lib.hid (show (t.set k Z).length = (s.set k (L - x + 1)).length ∧ (s.set k (L - x + 1)).length ≤ 6 by rw [List.length_set, List.length_set]; exact HEQ.out)
        have hk6 : k < 6 := by have := HK.out; omega
        have e2 : IntKind.i64.wrap (L - x) = L - x := IntWalk.i64_in _ (by omega)
        have e3 : wrap64 (L - x) = L - x := IntWalk.wrap64_in _ (by omega)
        have e4 : IntKind.i64.wrap (L - x + 1) = L - x + 1 := IntWalk.i64_in _ (by omega)
        have e5 : wrap64 (L - x + 1) = L - x + 1 := IntWalk.wrap64_in _ (by omega)
        have e6 : IntKind.i64.wrap ((k : Int) + 1) = (k : Int) + 1 := IntWalk.i64_in _ (by omega)
        have e7 : wrap64 ((k : Int) + 1) = (k : Int) + 1 := IntWalk.wrap64_in _ (by omega)
        clear hp hgo hno hx0 hx1 hlb hzb hoff hrl
        have HCH : Hid (∀ w4 p1 p2 p3 p4 p5 p6, w.grownBy w4 none → Box w4 p1 3 #[.int .i64 (L - x + 1)] → Box w4 p2 3 #[.int .i64 (Z)] → Box w4 p3 3 #[.int .i64 (k : Int)] → Box w4 p4 3 #[.int .i64 ((k : Int) + 1)] → Box w4 p5 3 #[.int .i64 (x)] → Box w4 p6 3 #[.int .i64 (Z)] → Calls Try.prog 40 #[.agg #[.slice A n c, .slice A' n' c', .int .i64 o], .slice (some ⟨w4.heap.size, 0, none⟩) 2 2] (w4.alloc (.cells #[.func (.func 76) #[] #[.pointer (some ⟨p1, 0, none⟩), .pointer (some ⟨p2, 0, none⟩), .pointer (some ⟨p3, 0, none⟩)], .func (.func 82) #[] #[.pointer (some ⟨p4, 0, none⟩), .pointer (some ⟨p5, 0, none⟩), .pointer (some ⟨p6, 0, none⟩)]] 72)) (GaveVQ p (w4.alloc (.cells #[.func (.func 76) #[] #[.pointer (some ⟨p1, 0, none⟩), .pointer (some ⟨p2, 0, none⟩), .pointer (some ⟨p3, 0, none⟩)], .func (.func 82) #[] #[.pointer (some ⟨p4, 0, none⟩), .pointer (some ⟨p5, 0, none⟩), .pointer (some ⟨p6, 0, none⟩)]] 72)))) := Lib.hid fun w4 p1 p2 p3 p4 p5 p6 hg h1 h2 h3 h4 h5 h6 => by
          have hg2 := grown_alloc hg (.cells #[.func (.func 76) #[] #[.pointer (some ⟨p1, 0, none⟩), .pointer (some ⟨p2, 0, none⟩), .pointer (some ⟨p3, 0, none⟩)], .func (.func 82) #[] #[.pointer (some ⟨p4, 0, none⟩), .pointer (some ⟨p5, 0, none⟩), .pointer (some ⟨p6, 0, none⟩)]] 72)
          rw [HP.out]
          exact own8_changed2 A A' n c n' c' s t o w4.heap.size 2 _ _ _ _ ⟨s.set k (L - x + 1), t.set k Z, o⟩ ⟨withL (s.set k (L - x + 1)) ((k : Int) + 1) x, putL (t.set k Z) (k + 1) Z, o⟩ (withB (s.set k (L - x + 1)) ((k : Int) + 1) x) _ (H.out.grow hg2) (H'.out.grow hg2) hn hn' (Box.fresh _ _ _) plain_laid plain_with (fun hr => does_laid (h1.alloc _) (h2.alloc _) (h3.alloc _) HK.out.1 HK.out.2 HLN.out) (fun hr => does_with (h4.alloc _) (h5.alloc _) (h6.alloc _) HEQ2.out.1 HEQ2.out.2) (fun hr _ => ⟨by have h1 := with_len8 (s.set k (L - x + 1)) ((k : Int) + 1) x; have h2 := HLN.out; have h3 := HEQ.out; rw [List.length_set] at h1; show (withL _ _ _).length ≤ _; omega, by have h1 := put_len8 (t.set k Z) (k + 1) Z; have h2 := HLN.out; have h3 := HEQ.out; rw [List.length_set] at h1; show (putL _ _ _).length ≤ _; omega⟩)
        go_enter Try.func30, Try.ntmps30
        go_upto_region 1 with fail
        rw [← HW1.out]
        obtain ⟨x0, x1, x2⟩ := cells_three8 HX.out
        go_wp2_with fail
        refine (HAX.out _ HG1.out).mono ?_
        rintro e w2 ⟨b1, b2, rfl, hax, hg⟩
        have HG12 := Lib.hid hg
        have HAI := Lib.hid (own8_axis b1 b2 _ (k : Int) w2 hax)
        rw [HAN.out, HAS.out, HAB.out] at HAI
        clear x0 x1 x2 hg hax
        go_wp2_with fail
        refine HAI.out.mono ?_
        rintro e w3 ⟨rfl, hg⟩
        have HGR : Hid (w1.grownBy w3 none) := Lib.hid (grown_join HG12.out hg (.inr (by simp)))
        obtain ⟨x0, x1, x2⟩ := cells_three8 (HX.out.grown HGR.out (by simp))
        obtain ⟨q0, q1, q2, g0, g1, g2, d0, d1, d2⟩ := (HY.out.grown HGR.out (by simp)).three8 (.slice none 0 0) (.slice none 0 0) (.int .i64 0)
        clear hg HAI
        go_upto_region 4 with fail
        go_region_held3 (fun w' => w'.cell? ⟨w.heap.size, 0, none⟩ = some (.slice A n c) ∧ w'.cell? ⟨w.heap.size, 1, none⟩ = some (.slice A' n' c') ∧ w'.cell? ⟨w.heap.size, 2, none⟩ = some (.int .i64 o)) (first | exact KEEP9.out | exact HC.out _ (by repeat (first | exact HG8.out | exact HG7.out | exact HG6.out | exact HGR.out | exact grown_refl _ _ | refine grown_drew ?_ | refine grown_drewN ?_ _ | refine grown_alloc ?_ _)) | go_keep) (first
          | (go_at_call 40; refine (HCH.out w7 p1 p2 p3 p4 p5 p6 (grown_join HG1.out HG7.out (.inr (by simp))) (HB1.out.grown HG67.out (by simp)) (HB2.out.grown HG67.out (by simp)) (HB3.out.grown HG67.out (by simp)) HB4.out HB5.out HB6.out).mono ?_; rintro e w8 ⟨A8, n8, c8, B8, m8, d8, rfl, h8, h8', hg8⟩; have HG8 : Hid (w1.grownBy w8 none) := Lib.hid (grown_join (grown_alloc HG7.out _) hg8 (.inr (by simp))); obtain ⟨q0, q1, q2, g0, g1, g2, d0, d1, d2⟩ := (HY.out.grown HG8.out (by simp)).three8 (.slice A8 n8 c8) (.slice B8 m8 d8) (.int .i64 p.1.off); have KEEP9 := Lib.hid (cells_three8 (box_three (HX.out.grown HG8.out (by simp)) (g := w.heap.size + 1) (by omega) (.slice A8 n8 c8) (.slice B8 m8 d8) (.int .i64 p.1.off))); have HFIN := Lib.hid (tail8 (p := p) (w := w) (r := w.heap.size + 1) h8 h8' (by have h1 := HSZ.out; have h2 := (HG7.out).size; simp; omega) (by omega) (grown_join HG1.out HG8.out (.inr (by simp)))); clear h8 h8' hg8)
          | (go_at_call 53; refine (own8_laid _ _ _ _).mono ?_; rintro e w6 ⟨p1, p2, p3, rfl, hb1, hb2, hb3, hg6⟩; have HB1 := Lib.hid hb1; have HB2 := Lib.hid hb2; have HB3 := Lib.hid hb3; clear hb1 hb2 hb3; have HG6 : Hid (w1.grownBy w6 none) := Lib.hid (grown_join (by repeat (first | exact grown_refl _ _ | exact HGR.out | refine grown_drewN ?_ _ | refine grown_drew ?_ | refine grown_alloc ?_ _)) hg6 (.inr (by simp))); clear hg6)
          | (go_at_call 60; refine (own8_with _ _ _ _).mono ?_; rintro e w7 ⟨p4, p5, p6, rfl, hb4, hb5, hb6, hg7⟩; have HB4 := Lib.hid hb4; have HB5 := Lib.hid hb5; have HB6 := Lib.hid hb6; clear hb4 hb5 hb6; have HG67 := Lib.hid hg7; have HG7 : Hid (w1.grownBy w7 none) := Lib.hid (grown_join HG6.out hg7 (.inr (by simp))); clear hg7))
        all_goals
          go_wp2_with fail
          exact bodyPost_ret (v := .tuple #[.agg #[.slice A8 n8 c8, .slice B8 m8 d8, .int .i64 p.1.off], .bool p.2]) (by simp [results, Try.results30, go_sem, d0, d1, d2]) rfl HFIN.out
end Go.Proofs.Ytkpfhjjojchdlaa
end

/-! Layer 8, the program's own: Reshape. -/
section
namespace Go.Proofs.Ytkpfhjjojchdlaa
open Go.ChangeShapes Go.WideShapes Go.ChangeAt Go.RowKit
set_option linter.unusedVariables false
set_option maxRecDepth 100000

theorem cells_six8 {w : World} {b b' : Nat} {t t' : TypeId} {x y z x' y' z' : Value} (h : Box w b t #[x, y, z]) (h' : Box w b' t' #[x', y', z']) : w.cell? ⟨b, 0, none⟩ = some x ∧ w.cell? ⟨b, 1, none⟩ = some y ∧ w.cell? ⟨b, 2, none⟩ = some z ∧ w.cell? ⟨b', 0, none⟩ = some x' ∧ w.cell? ⟨b', 1, none⟩ = some y' ∧ w.cell? ⟨b', 2, none⟩ = some z' :=
  ⟨by rw [h.get]; rfl, by rw [h.get]; rfl, by rw [h.get]; rfl, by rw [h'.get]; rfl, by rw [h'.get]; rfl, by rw [h'.get]; rfl⟩
theorem cells_four8 {w : World} {b b' : Nat} {t t' : TypeId} {x y z x' y' z' : Value} (h : Box w b t #[x, y, z]) (h' : Box w b' t' #[x', y', z']) : w.cell? ⟨b, 2, none⟩ = some z ∧ w.cell? ⟨b', 0, none⟩ = some x' ∧ w.cell? ⟨b', 1, none⟩ = some y' ∧ w.cell? ⟨b', 2, none⟩ = some z' :=
  ⟨by rw [h.get]; rfl, by rw [h'.get]; rfl, by rw [h'.get]; rfl, by rw [h'.get]; rfl⟩
theorem new_right8 {l : List Int} (h : (newV l).2 = true) : rightV (newV l).1 = true := by
  rw [new_fine] at h ⊢
  unfold fineV at h ⊢
  split
  · assumption
  · rename_i hh; rw [if_neg hh] at h; cases h
set_option maxHeartbeats 8000000 in
theorem own8_reshape (A A' : Option Addr) (n c n' c' : Nat) (s t : List Int) (o : Int) (D : Option Addr) (m d : Nat) (l : List Int) (w : World) (h : NumsF w A n c s) (h' : NumsF w A' n' c' t) (hn : n ≤ 1048576) (hn' : n' ≤ 1048576) (h0 : NumsF w D m d l) (hm : m ≤ 1048576) :
    Calls Try.prog 32 #[.agg #[.slice A n c, .slice A' n' c', .int .i64 o], .slice D m d] w (GaveVQ (shapeV ⟨s, t, o⟩ l) w) := by
  obtain ⟨p, hp⟩ : ∃ p, shapeV ⟨s, t, o⟩ l = p := ⟨_, rfl⟩
  rw [hp]
  have HNW := Lib.hid (fun w' (hg : w.grownBy w' none) => own8_new D m d l w' (h0.grow hg) hm)
  have HNO := Lib.hid (fun hb => reshape_no (v := ⟨s, t, o⟩) (s := l) hb)
  have HGO := Lib.hid (fun h1 h2 h3 => reshape_go (v := ⟨s, t, o⟩) (s := l) h1 h2 h3)
  have HNR := Lib.hid (fun hh => new_right8 (l := l) hh)
  have HPP := Lib.hid hp
  have H := Lib.hid h
  have H' := Lib.hid h'
  clear h h' h0 hp
  obtain ⟨w1, hw1⟩ : ∃ w1, w1 = (w.alloc (.cells #[.slice A n c, .slice A' n' c', .int .i64 o] 29)).alloc (.cells #[.slice none 0 0, .slice none 0 0, .int .i64 0] 29) := ⟨_, rfl⟩
  have hb := boxes8 w 29 #[.slice A n c, .slice A' n' c', .int .i64 o] #[.slice none 0 0, .slice none 0 0, .int .i64 0]
  rw [← hw1] at hb
  obtain ⟨hx, hy, hg1⟩ := hb
  have HX := Lib.hid hx
  have HY := Lib.hid hy
  have HG1 := Lib.hid hg1
  have HW1 := Lib.hid hw1
  have HSZ := Lib.hid (show w.heap.size + 1 < w1.heap.size from hy.small)
  clear hw1 hx hy hg1
  obtain ⟨P, hP⟩ : ∃ P, newV l = P := ⟨_, rfl⟩
  rw [hP] at HNW HNO HGO HNR
  clear hP
  obtain ⟨⟨ns, nt, no⟩, ok⟩ := P
  dsimp only at HNO HGO HNR
  cases ok with
  | false =>
    have HP := Lib.hid (show p = (zeroV, false) by rw [← HPP.out]; exact HNO.out rfl)
    go_enter Try.func32, Try.ntmps32
    go_upto_region 1 with fail
    rw [← HW1.out]
    obtain ⟨x0, x1, x2⟩ := cells_three8 HX.out
    go_wp2_with fail
    refine (HNW.out _ HG1.out).mono ?_
    rintro e w2 ⟨A2, n2, c2, B2, m2, d2, rfl, h2, h2', hg⟩
    have HH2 := Lib.hid h2
    have HH2' := Lib.hid h2'
    have HG12 := Lib.hid hg
    have HSZ2 := Lib.hid (show w.heap.size + 1 < w2.heap.size by have h1 := HSZ.out; have h3 := hg.size; omega)
    clear x0 x1 x2 h2 h2' hg
    dsimp only at HH2 HH2' ⊢
    go_upto_region 2 with fail
    obtain ⟨w3, hw3⟩ : ∃ w3, w3 = w2.alloc (.cells #[.slice A2 n2 c2, .slice B2 m2 d2, .int .i64 no] 29) := ⟨_, rfl⟩
    rw [← hw3]
    have HG23 : Hid (w2.grownBy w3 none) := Lib.hid (by rw [hw3]; exact World.grownBy_alloc _ _ _)
    have HB3 : Hid (Box w3 w2.heap.size 29 #[.slice A2 n2 c2, .slice B2 m2 d2, .int .i64 no]) := Lib.hid (by rw [hw3]; exact Box.fresh _ _ _)
    have HG3 : Hid (w1.grownBy w3 none) := Lib.hid (grown_join HG12.out HG23.out (.inr (by simp)))
    have HX3 := Lib.hid (HX.out.grown HG3.out (by simp))
    have HY3 := Lib.hid (HY.out.grown HG3.out (by simp))
    have HC6 := Lib.hid (fun w' (hg : w3.grownBy w' none) => cells_six8 (HX3.out.grown hg (by simp)) (HB3.out.grown hg (by simp)))
    have HDN := Lib.hid (fun w' (hg : w3.grownBy w' none) => own8_dense A A' n c n' c' s t o w' (H.out.grow (grown_join (grown_join HG1.out HG3.out (.inr (by simp))) hg (.inr (by simp)))) (H'.out.grow (grown_join (grown_join HG1.out HG3.out (.inr (by simp))) hg (.inr (by simp)))) hn hn')
    have HZ2 := Lib.hid (fun w' (hg : w3.grownBy w' none) => own8_size A A' n c n' c' s t o w' (H.out.grow (grown_join (grown_join HG1.out HG3.out (.inr (by simp))) hg (.inr (by simp)))) hn)
    clear hw3
    obtain ⟨x0, x1, x2, y0, y1, y2⟩ := HC6.out _ (grown_refl _ _)
    go_quiet (fail)
    obtain ⟨q0, q1, q2, g0, g1, g2, z0, z1, z2⟩ := (HY3.out.grown (grown_drewN (grown_refl w3 none) nq) (by simp)).three8 (.slice none 0 0) (.slice none 0 0) (.int .i64 0)
    go_wp2_with fail
    exact bodyPost_ret (v := .tuple #[.agg #[.slice none 0 0, .slice none 0 0, .int .i64 0], .bool false]) (by simp [results, Try.results32, go_sem, z0, z1, z2]) rfl (by rw [HP.out]; exact gaveVQ_no rfl (grown_three (grown_join HG1.out (grown_join HG3.out (grown_drewN (grown_refl w3 none) nq) (.inr (by simp))) (.inr (by simp))) (by omega) _ _ _))
  | true =>
    have HNRT := Lib.hid (HNR.out (by first | rfl | trivial))
    cases hd : denseB ⟨s, t, o⟩ with
    | false =>
      have HP := Lib.hid (show p = (zeroV, false) by rw [← HPP.out]; exact HNO.out (by rw [hd]; rfl))
      go_enter Try.func32, Try.ntmps32
      go_upto_region 1 with fail
      rw [← HW1.out]
      obtain ⟨x0, x1, x2⟩ := cells_three8 HX.out
      go_wp2_with fail
      refine (HNW.out _ HG1.out).mono ?_
      rintro e w2 ⟨A2, n2, c2, B2, m2, d2, rfl, h2, h2', hg⟩
      have HH2 := Lib.hid h2
      have HH2' := Lib.hid h2'
      have HG12 := Lib.hid hg
      have HSZ2 := Lib.hid (show w.heap.size + 1 < w2.heap.size by have h1 := HSZ.out; have h3 := hg.size; omega)
      clear x0 x1 x2 h2 h2' hg
      dsimp only at HH2 HH2' ⊢
      go_upto_region 2 with fail
      obtain ⟨w3, hw3⟩ : ∃ w3, w3 = w2.alloc (.cells #[.slice A2 n2 c2, .slice B2 m2 d2, .int .i64 no] 29) := ⟨_, rfl⟩
      rw [← hw3]
      have HG23 : Hid (w2.grownBy w3 none) := Lib.hid (by rw [hw3]; exact World.grownBy_alloc _ _ _)
      have HB3 : Hid (Box w3 w2.heap.size 29 #[.slice A2 n2 c2, .slice B2 m2 d2, .int .i64 no]) := Lib.hid (by rw [hw3]; exact Box.fresh _ _ _)
      have HG3 : Hid (w1.grownBy w3 none) := Lib.hid (grown_join HG12.out HG23.out (.inr (by simp)))
      have HX3 := Lib.hid (HX.out.grown HG3.out (by simp))
      have HY3 := Lib.hid (HY.out.grown HG3.out (by simp))
      have HC6 := Lib.hid (fun w' (hg : w3.grownBy w' none) => cells_six8 (HX3.out.grown hg (by simp)) (HB3.out.grown hg (by simp)))
      have HDN := Lib.hid (fun w' (hg : w3.grownBy w' none) => own8_dense A A' n c n' c' s t o w' (H.out.grow (grown_join (grown_join HG1.out HG3.out (.inr (by simp))) hg (.inr (by simp)))) (H'.out.grow (grown_join (grown_join HG1.out HG3.out (.inr (by simp))) hg (.inr (by simp)))) hn hn')
      have HZ2 := Lib.hid (fun w' (hg : w3.grownBy w' none) => own8_size A A' n c n' c' s t o w' (H.out.grow (grown_join (grown_join HG1.out HG3.out (.inr (by simp))) hg (.inr (by simp)))) hn)
      clear hw3
      obtain ⟨x0, x1, x2, y0, y1, y2⟩ := HC6.out _ (grown_refl _ _)
      rw [hd] at HDN
      clear hd
      have HC6' := HC6.out _ (grown_drew (grown_refl w3 none))
      go_region_law (first
        | (go_simp; (go_at_call 34; refine (HDN.out _ (by repeat (first | exact grown_refl _ _ | refine grown_drewN ?_ _ | refine grown_drew ?_))).mono ?_; rintro e w5 ⟨rfl, hg5⟩; have HG5 : Hid (w3.grownBy w5 none) := Lib.hid (grown_join (by repeat (first | exact grown_refl _ _ | refine grown_drewN ?_ _ | refine grown_drew ?_)) hg5 (.inr (by simp))); clear hg5)))
      all_goals
        obtain ⟨q0, q1, q2, g0, g1, g2, z0, z1, z2⟩ := (HY3.out.grown HG5.out (by simp)).three8 (.slice none 0 0) (.slice none 0 0) (.int .i64 0)
        go_wp2_with fail
        exact bodyPost_ret (v := .tuple #[.agg #[.slice none 0 0, .slice none 0 0, .int .i64 0], .bool false]) (by simp [results, Try.results32, go_sem, z0, z1, z2]) rfl (by rw [HP.out]; exact gaveVQ_no rfl (grown_three (grown_join HG1.out (grown_join HG3.out HG5.out (.inr (by simp))) (.inr (by simp))) (by omega) _ _ _))
    | true =>
      have hof : 0 ≤ o ∧ o ≤ 16777216 := by
        have hd' := hd
        unfold denseB at hd'
        simp only [Bool.and_eq_true] at hd'
        exact ⟨(rightV_all hd'.1).2.2.1, (rightV_all hd'.1).2.2.2.1⟩
      have hno : 0 ≤ no ∧ no ≤ 16777216 := ⟨(rightV_all HNRT.out).2.2.1, (rightV_all HNRT.out).2.2.2.1⟩
      have HI := Lib.hid (show I64 (no + o) by unfold I64; omega)
      have HLS := Lib.hid (show ns.length ≤ 6 ∧ nt.length ≤ 6 by have h1 := right_lens HNRT.out; omega)
      by_cases hz : cellsV ⟨ns, nt, no⟩ = cellsV ⟨s, t, o⟩
      · have HP := Lib.hid (show p = chR ⟨ns, nt, no⟩ true ⟨ns, nt, no + o⟩ by rw [← HPP.out]; exact HGO.out (by first | rfl | trivial) hd hz)
        go_enter Try.func32, Try.ntmps32
        go_upto_region 1 with fail
        rw [← HW1.out]
        obtain ⟨x0, x1, x2⟩ := cells_three8 HX.out
        go_wp2_with fail
        refine (HNW.out _ HG1.out).mono ?_
        rintro e w2 ⟨A2, n2, c2, B2, m2, d2, rfl, h2, h2', hg⟩
        have HH2 := Lib.hid h2
        have HH2' := Lib.hid h2'
        have HG12 := Lib.hid hg
        have HSZ2 := Lib.hid (show w.heap.size + 1 < w2.heap.size by have h1 := HSZ.out; have h3 := hg.size; omega)
        clear x0 x1 x2 h2 h2' hg
        dsimp only at HH2 HH2' ⊢
        go_upto_region 2 with fail
        obtain ⟨w3, hw3⟩ : ∃ w3, w3 = w2.alloc (.cells #[.slice A2 n2 c2, .slice B2 m2 d2, .int .i64 no] 29) := ⟨_, rfl⟩
        rw [← hw3]
        have HG23 : Hid (w2.grownBy w3 none) := Lib.hid (by rw [hw3]; exact World.grownBy_alloc _ _ _)
        have HB3 : Hid (Box w3 w2.heap.size 29 #[.slice A2 n2 c2, .slice B2 m2 d2, .int .i64 no]) := Lib.hid (by rw [hw3]; exact Box.fresh _ _ _)
        have HG3 : Hid (w1.grownBy w3 none) := Lib.hid (grown_join HG12.out HG23.out (.inr (by simp)))
        have HX3 := Lib.hid (HX.out.grown HG3.out (by simp))
        have HY3 := Lib.hid (HY.out.grown HG3.out (by simp))
        have HC6 := Lib.hid (fun w' (hg : w3.grownBy w' none) => cells_six8 (HX3.out.grown hg (by simp)) (HB3.out.grown hg (by simp)))
        have HDN := Lib.hid (fun w' (hg : w3.grownBy w' none) => own8_dense A A' n c n' c' s t o w' (H.out.grow (grown_join (grown_join HG1.out HG3.out (.inr (by simp))) hg (.inr (by simp)))) (H'.out.grow (grown_join (grown_join HG1.out HG3.out (.inr (by simp))) hg (.inr (by simp)))) hn hn')
        have HZ2 := Lib.hid (fun w' (hg : w3.grownBy w' none) => own8_size A A' n c n' c' s t o w' (H.out.grow (grown_join (grown_join HG1.out HG3.out (.inr (by simp))) hg (.inr (by simp)))) hn)
        clear hw3
        obtain ⟨x0, x1, x2, y0, y1, y2⟩ := HC6.out _ (grown_refl _ _)
        have HN2 := Lib.hid (show n2 ≤ 1048576 ∧ m2 ≤ 1048576 by have h1 := HH2.out.1; have h2 := HH2'.out.1; have h3 := HLS.out; omega)
        have HZ1 := Lib.hid (fun w' (hg : w3.grownBy w' none) => own8_size A2 B2 n2 c2 m2 d2 ns nt no w' (HH2.out.numsF.grow (grown_join HG23.out hg (.inr (by simp)))) HN2.out.1)
        have HCH : Hid (∀ w4 p1, w3.grownBy w4 none → Box w4 p1 3 #[.int .i64 o] → Calls Try.prog 40 #[.agg #[.slice A2 n2 c2, .slice B2 m2 d2, .int .i64 no], .slice (some ⟨w4.heap.size, 0, none⟩) 1 1] (w4.alloc (.cells #[.func (.func 75) #[] #[.pointer (some ⟨p1, 0, none⟩)]] 72)) (GaveVQ p (w4.alloc (.cells #[.func (.func 75) #[] #[.pointer (some ⟨p1, 0, none⟩)]] 72)))) := Lib.hid fun w4 p1 hg h1 => by
          have hg2 := grown_join HG23.out (grown_alloc hg (.cells #[.func (.func 75) #[] #[.pointer (some ⟨p1, 0, none⟩)]] 72)) (.inr (by simp))
          rw [HP.out]
          exact own8_changed1 A2 B2 n2 c2 m2 d2 ns nt no w4.heap.size 1 _ _ ⟨ns, nt, no + o⟩ true _ (HH2.out.numsF.grow hg2) (HH2'.out.numsF.grow hg2) HN2.out.1 HN2.out.2 (Box.fresh _ _ _) plain_moved (fun hr => does_moved (h1.alloc _) HI.out) (fun hr _ => ⟨by show ns.length ≤ _; have := HLS.out; omega, by show nt.length ≤ _; have := HLS.out; omega⟩)
        rw [hd] at HDN
        rw [hz] at HZ1
        generalize cellsV ⟨s, t, o⟩ = cv at *
        have e0 : (cv != cv) = false := by simp
        clear hd hz hof hno
        go_region_held3 (fun w' => w'.cell? ⟨w.heap.size, 0, none⟩ = some (.slice A n c) ∧ w'.cell? ⟨w.heap.size, 1, none⟩ = some (.slice A' n' c') ∧ w'.cell? ⟨w.heap.size, 2, none⟩ = some (.int .i64 o) ∧ w'.cell? ⟨w2.heap.size, 0, none⟩ = some (.slice A2 n2 c2) ∧ w'.cell? ⟨w2.heap.size, 1, none⟩ = some (.slice B2 m2 d2) ∧ w'.cell? ⟨w2.heap.size, 2, none⟩ = some (.int .i64 no)) (first | exact HC6.out _ (by repeat (first | exact HG7.out | exact HG6.out | exact HG5.out | exact grown_refl _ _ | refine grown_drew ?_ | refine grown_drewN ?_ _ | refine grown_alloc ?_ _)) | go_keep) (first
          | (go_at_call 34; refine (HDN.out _ (by repeat (first | exact grown_refl _ _ | refine grown_drewN ?_ _ | refine grown_drew ?_))).mono ?_; rintro e w5 ⟨rfl, hg5⟩; have HG5 : Hid (w3.grownBy w5 none) := Lib.hid (grown_join (by repeat (first | exact grown_refl _ _ | refine grown_drewN ?_ _ | refine grown_drew ?_)) hg5 (.inr (by simp))); clear hg5)
          | (go_at_call 45; (with_reducible refine (HZ1.out _ HG5.out).mono ?_); rintro e w6 ⟨rfl, hg6⟩; have HG6 : Hid (w3.grownBy w6 none) := Lib.hid (grown_join HG5.out hg6 (.inr (by simp))); clear hg6)
          | (go_at_call 45; (with_reducible refine (HZ2.out _ HG6.out).mono ?_); rintro e w7 ⟨rfl, hg7⟩; have HG7 : Hid (w3.grownBy w7 none) := Lib.hid (grown_join HG6.out hg7 (.inr (by simp))); clear hg7))
        all_goals
          have HC4 := Lib.hid (fun w' (hg : w3.grownBy w' none) => cells_four8 (HX3.out.grown hg (by simp)) (HB3.out.grown hg (by simp)))
          obtain ⟨x2', y0', y1', y2'⟩ := HC4.out _ HG7.out
          clear x0 x1 x2 y0 y1 y2
          go_upto_region 4 with fail
          go_region_held3 (fun w' => w'.cell? ⟨w.heap.size, 2, none⟩ = some (.int .i64 o) ∧ w'.cell? ⟨w2.heap.size, 0, none⟩ = some (.slice A2 n2 c2) ∧ w'.cell? ⟨w2.heap.size, 1, none⟩ = some (.slice B2 m2 d2) ∧ w'.cell? ⟨w2.heap.size, 2, none⟩ = some (.int .i64 no)) (first | exact KEEP9.out | exact HC4.out _ (by repeat (first | exact HG10.out | exact HG9.out | exact HG7.out | exact grown_refl _ _ | refine grown_drew ?_ | refine grown_drewN ?_ _ | refine grown_alloc ?_ _)) | go_keep) (first
            | (go_at_call 40; refine (HCH.out w9 p1 HG9.out HB1.out).mono ?_; rintro e w8 ⟨A8, n8, c8, B8, m8, d8, rfl, h8, h8', hg8⟩; have HG10 : Hid (w3.grownBy w8 none) := Lib.hid (grown_join (grown_alloc HG9.out _) hg8 (.inr (by simp))); obtain ⟨q0, q1, q2, g0, g1, g2, z0, z1, z2⟩ := (HY3.out.grown HG10.out (by simp)).three8 (.slice A8 n8 c8) (.slice B8 m8 d8) (.int .i64 p.1.off); have KEEP9 := Lib.hid (cells_four8 (box_three (HX3.out.grown HG10.out (by simp)) (g := w.heap.size + 1) (by omega) (.slice A8 n8 c8) (.slice B8 m8 d8) (.int .i64 p.1.off)) (box_three (HB3.out.grown HG10.out (by simp)) (g := w.heap.size + 1) (by have := HSZ2.out; omega) (.slice A8 n8 c8) (.slice B8 m8 d8) (.int .i64 p.1.off))); have HFIN := Lib.hid (tail8 (p := p) (w := w) (r := w.heap.size + 1) h8 h8' (by have h1 := HSZ2.out; have h2 := HG9.out.size; have h3 := HG23.out.size; simp; omega) (by omega) (grown_join HG1.out (grown_join HG3.out HG10.out (.inr (by simp))) (.inr (by simp)))); clear h8 h8' hg8)
            | (go_at_call 52; refine (own8_moved _ _).mono ?_; rintro e w9 ⟨p1, rfl, hb1, hg9⟩; have HB1 := Lib.hid hb1; have HG9 : Hid (w3.grownBy w9 none) := Lib.hid (grown_join (by repeat (first | exact HG7.out | refine grown_drewN ?_ _ | refine grown_drew ?_)) hg9 (.inr (by simp))); clear hb1 hg9))
          all_goals
            go_wp2_with fail
            exact bodyPost_ret (v := .tuple #[.agg #[.slice A8 n8 c8, .slice B8 m8 d8, .int .i64 p.1.off], .bool p.2]) (by simp [results, Try.results32, go_sem, z0, z1, z2]) rfl HFIN.out
      · have HP := Lib.hid (show p = (zeroV, false) by rw [← HPP.out]; exact HNO.out (by rw [decide_eq_false hz, Bool.and_false]))
        go_enter Try.func32, Try.ntmps32
        go_upto_region 1 with fail
        rw [← HW1.out]
        obtain ⟨x0, x1, x2⟩ := cells_three8 HX.out
        go_wp2_with fail
        refine (HNW.out _ HG1.out).mono ?_
        rintro e w2 ⟨A2, n2, c2, B2, m2, d2, rfl, h2, h2', hg⟩
        have HH2 := Lib.hid h2
        have HH2' := Lib.hid h2'
        have HG12 := Lib.hid hg
        have HSZ2 := Lib.hid (show w.heap.size + 1 < w2.heap.size by have h1 := HSZ.out; have h3 := hg.size; omega)
        clear x0 x1 x2 h2 h2' hg
        dsimp only at HH2 HH2' ⊢
        go_upto_region 2 with fail
        obtain ⟨w3, hw3⟩ : ∃ w3, w3 = w2.alloc (.cells #[.slice A2 n2 c2, .slice B2 m2 d2, .int .i64 no] 29) := ⟨_, rfl⟩
        rw [← hw3]
        have HG23 : Hid (w2.grownBy w3 none) := Lib.hid (by rw [hw3]; exact World.grownBy_alloc _ _ _)
        have HB3 : Hid (Box w3 w2.heap.size 29 #[.slice A2 n2 c2, .slice B2 m2 d2, .int .i64 no]) := Lib.hid (by rw [hw3]; exact Box.fresh _ _ _)
        have HG3 : Hid (w1.grownBy w3 none) := Lib.hid (grown_join HG12.out HG23.out (.inr (by simp)))
        have HX3 := Lib.hid (HX.out.grown HG3.out (by simp))
        have HY3 := Lib.hid (HY.out.grown HG3.out (by simp))
        have HC6 := Lib.hid (fun w' (hg : w3.grownBy w' none) => cells_six8 (HX3.out.grown hg (by simp)) (HB3.out.grown hg (by simp)))
        have HDN := Lib.hid (fun w' (hg : w3.grownBy w' none) => own8_dense A A' n c n' c' s t o w' (H.out.grow (grown_join (grown_join HG1.out HG3.out (.inr (by simp))) hg (.inr (by simp)))) (H'.out.grow (grown_join (grown_join HG1.out HG3.out (.inr (by simp))) hg (.inr (by simp)))) hn hn')
        have HZ2 := Lib.hid (fun w' (hg : w3.grownBy w' none) => own8_size A A' n c n' c' s t o w' (H.out.grow (grown_join (grown_join HG1.out HG3.out (.inr (by simp))) hg (.inr (by simp)))) hn)
        clear hw3
        obtain ⟨x0, x1, x2, y0, y1, y2⟩ := HC6.out _ (grown_refl _ _)
        have HN2 := Lib.hid (show n2 ≤ 1048576 ∧ m2 ≤ 1048576 by have h1 := HH2.out.1; have h2 := HH2'.out.1; have h3 := HLS.out; omega)
        have HZ1 := Lib.hid (fun w' (hg : w3.grownBy w' none) => own8_size A2 B2 n2 c2 m2 d2 ns nt no w' (HH2.out.numsF.grow (grown_join HG23.out hg (.inr (by simp)))) HN2.out.1)
        rw [hd] at HDN
        generalize cellsV ⟨ns, nt, no⟩ = cw at *
        generalize cellsV ⟨s, t, o⟩ = cv at *
        have e0 : (cw != cv) = true := by simp [hz]
        clear hd hz hof hno
        go_region_held3 (fun w' => w'.cell? ⟨w.heap.size, 0, none⟩ = some (.slice A n c) ∧ w'.cell? ⟨w.heap.size, 1, none⟩ = some (.slice A' n' c') ∧ w'.cell? ⟨w.heap.size, 2, none⟩ = some (.int .i64 o) ∧ w'.cell? ⟨w2.heap.size, 0, none⟩ = some (.slice A2 n2 c2) ∧ w'.cell? ⟨w2.heap.size, 1, none⟩ = some (.slice B2 m2 d2) ∧ w'.cell? ⟨w2.heap.size, 2, none⟩ = some (.int .i64 no)) (first | exact HC6.out _ (by repeat (first | exact HG7.out | exact HG6.out | exact HG5.out | exact grown_refl _ _ | refine grown_drew ?_ | refine grown_drewN ?_ _ | refine grown_alloc ?_ _)) | go_keep) (first
          | (go_at_call 34; refine (HDN.out _ (by repeat (first | exact grown_refl _ _ | refine grown_drewN ?_ _ | refine grown_drew ?_))).mono ?_; rintro e w5 ⟨rfl, hg5⟩; have HG5 : Hid (w3.grownBy w5 none) := Lib.hid (grown_join (by repeat (first | exact grown_refl _ _ | refine grown_drewN ?_ _ | refine grown_drew ?_)) hg5 (.inr (by simp))); clear hg5)
          | (go_at_call 45; (with_reducible refine (HZ1.out _ HG5.out).mono ?_); rintro e w6 ⟨rfl, hg6⟩; have HG6 : Hid (w3.grownBy w6 none) := Lib.hid (grown_join HG5.out hg6 (.inr (by simp))); clear hg6)
          | (go_at_call 45; (with_reducible refine (HZ2.out _ HG6.out).mono ?_); rintro e w7 ⟨rfl, hg7⟩; have HG7 : Hid (w3.grownBy w7 none) := Lib.hid (grown_join HG6.out hg7 (.inr (by simp))); clear hg7))
        all_goals
          obtain ⟨q0, q1, q2, g0, g1, g2, z0, z1, z2⟩ := (HY3.out.grown HG7.out (by simp)).three8 (.slice none 0 0) (.slice none 0 0) (.int .i64 0)
          go_wp2_with fail
          exact bodyPost_ret (v := .tuple #[.agg #[.slice none 0 0, .slice none 0 0, .int .i64 0], .bool false]) (by simp [results, Try.results32, go_sem, z0, z1, z2]) rfl (by rw [HP.out]; exact gaveVQ_no rfl (grown_three (grown_join HG1.out (grown_join HG3.out HG7.out (.inr (by simp))) (.inr (by simp))) (by omega) _ _ _))
end Go.Proofs.Ytkpfhjjojchdlaa
end

/-! Layer 8: the program's own view tells what the walks ask of it. -/
section
namespace Go.Proofs.Ytkpfhjjojchdlaa
open Go.ChangeShapes Go.WideShapes Go.ChangeAt Go.RowKit
set_option linter.unusedVariables false
set_option maxRecDepth 100000

theorem says8 : ViewSays where
  new := fun A n c s w h hn => (own8_new A n c s w h hn).mono fun e w' h => h.vp
  right := fun A n c A' n' c' v w h ho => own8_right A A' n c n' c' v.sh v.st v.off w h.1 h.2.1 h.2.2.1 h.2.2.2
  offset := fun A n c A' n' c' v B m d l w h ho h2 hm => own8_offset A A' B n c n' c' m d v.sh v.st l v.off w h.1 h.2.1 h2 h.2.2.1 h.2.2.2 hm
  bounds := fun A n c A' n' c' v w h ho => own8_bounds A A' n c n' c' v.sh v.st v.off w h.1 h.2.1 h.2.2.1 h.2.2.2
  fits := fun A n c A' n' c' v x w h ho hx => own8_fits A A' n c n' c' v.sh v.st v.off x w h.1 h.2.1 h.2.2.1 h.2.2.2
  slice := fun A n c A' n' c' v i f N p w h ho _ _ _ _ => (own8_slice A A' n c n' c' v.sh v.st v.off i f N p w h.1 h.2.1 h.2.2.1 h.2.2.2).mono fun e w' h => h.vp
  flip := fun A n c A' n' c' v i w h ho _ => (own8_flip A A' n c n' c' v.sh v.st v.off i w h.1 h.2.1 h.2.2.1 h.2.2.2).mono fun e w' h => h.vp
  permute := fun A n c A' n' c' v B m d q w h ho h2 hm _ => (own8_permute A A' n c n' c' v.sh v.st v.off B m d q w h.1 h.2.1 h.2.2.1 h.2.2.2 h2 hm).mono fun e w' h => h.vp
  drop := fun A n c A' n' c' v i x w h ho _ _ => (own8_drop A A' n c n' c' v.sh v.st v.off i x w h.1 h.2.1 h.2.2.1 h.2.2.2).mono fun e w' h => h.vp
  expand := fun A n c A' n' c' v i x w h ho _ _ => (own8_expand A A' n c n' c' v.sh v.st v.off i x w h.1 h.2.1 h.2.2.1 h.2.2.2).mono fun e w' h => h.vp
  window := fun A n c A' n' c' v i x w h ho _ _ => (own8_window A A' n c n' c' v.sh v.st v.off i x w h.1 h.2.1 h.2.2.1 h.2.2.2).mono fun e w' h => h.vp
  dense := fun A n c A' n' c' v w h ho => own8_dense A A' n c n' c' v.sh v.st v.off w h.1 h.2.1 h.2.2.1 h.2.2.2
  reshape := fun A n c A' n' c' v B m d l w h ho h2 hm => (own8_reshape A A' n c n' c' v.sh v.st v.off B m d l w h.1 h.2.1 h.2.2.1 h.2.2.2 h2 hm).mono fun e w' h => h.vp
end Go.Proofs.Ytkpfhjjojchdlaa
end
