/-
  Layer 8: the reference's Flip.
-/
import Derived.Test.YtkpfhjjojchdlaaRef8d
namespace Go.Proofs.Ytkpfhjjojchdlaa
open Go.ChangeShapes Go.WideShapes Go.ChangeAt Go.RowKit
set_option linter.unusedVariables false
set_option maxRecDepth 100000

theorem box_three {w : World} {b g : Nat} {T : TypeId} {a : Array Value} (h : Box w b T a) (hne : b ≠ g) (u v s : Value) : Box (((w.setCell ⟨g, 0, none⟩ u).setCell ⟨g, 1, none⟩ v).setCell ⟨g, 2, none⟩ s) b T a :=
  h.grown (row := some g) (grown_put (grown_put (grown_put (grown_refl w (some g)) (.inl rfl) u) (.inl rfl) v) (.inl rfl) s) (fun e => hne (by injection e))
theorem nums_cell {w : World} {b off n c k : Nat} {s : List Int} (h : NumsF w (some ⟨b, off, none⟩) n c s) (hk : k < n) : w.cell? ⟨b, off + k, none⟩ = some (.int .i64 (s.getD k 0)) := by
  obtain ⟨b2, off2, e, _, hc⟩ := h.1.2.at_ hk
  injection e with e
  injection e with e1 e2
  subst e1; subst e2
  exact hc
/-- the five cells that a call on an axis of a view loads. -/
theorem cells8 {w : World} {g : Nat} {T : TypeId} {b off n c b' off' n' c' k : Nat} {s t : List Int} {o u z : Int} (hb : Box w g T #[.slice (some ⟨b, off, none⟩) n c, .slice (some ⟨b', off', none⟩) n' c', .int .i64 o]) (h : NumsF w (some ⟨b, off, none⟩) n c s) (h' : NumsF w (some ⟨b', off', none⟩) n' c' t) (hk : k < n) (hk' : k < n') (hu : s.getD k 0 = u) (hz : t.getD k 0 = z) :
    w.cell? ⟨g, 0, none⟩ = some (.slice (some ⟨b, off, none⟩) n c) ∧ w.cell? ⟨g, 1, none⟩ = some (.slice (some ⟨b', off', none⟩) n' c') ∧ w.cell? ⟨g, 2, none⟩ = some (.int .i64 o) ∧ w.cell? ⟨b, off + k, none⟩ = some (.int .i64 u) ∧ w.cell? ⟨b', off' + k, none⟩ = some (.int .i64 z) :=
  ⟨by rw [hb.get]; rfl, by rw [hb.get]; rfl, by rw [hb.get]; rfl, by rw [← hu]; exact nums_cell h hk, by rw [← hz]; exact nums_cell h' hk'⟩
set_option maxHeartbeats 2000000 in
theorem ref8Flip_any (A A' : Option Addr) (n c n' c' : Nat) (s t : List Int) (o i : Int) (w : World) (h : NumsF w A n c s) (h' : NumsF w A' n' c' t) (hn : n ≤ 1048576) (hn' : n' ≤ 1048576) :
    Calls Try.prog 23 #[.agg #[.slice A n c, .slice A' n' c', .int .i64 o], .int .i64 i] w (GaveVP (flipV ⟨s, t, o⟩ i) w) := by
  have HA := Lib.hid (fun w' (hg : w.grownBy w' none) => ref8axis_any A A' n c n' c' s t o i w' (h.grow hg) (h'.grow hg) hn hn')
  have H := Lib.hid h
  have H' := Lib.hid h'
  obtain ⟨w1, hw1⟩ : ∃ w1, w1 = (w.alloc (.cells #[.slice A n c, .slice A' n' c', .int .i64 o] 24)).alloc (.cells #[.slice none 0 0, .slice none 0 0, .int .i64 0] 24) := ⟨_, rfl⟩
  have hb := boxes8 w 24 #[.slice A n c, .slice A' n' c', .int .i64 o] #[.slice none 0 0, .slice none 0 0, .int .i64 0]
  rw [← hw1] at hb
  obtain ⟨hx, hy, hg1⟩ := hb
  have HX := Lib.hid hx
  have HY := Lib.hid hy
  have HG1 := Lib.hid hg1
  have HW1 := Lib.hid hw1
  have HFL := Lib.hid (show ∀ b, axisB ⟨s, t, o⟩ i = b → flipV ⟨s, t, o⟩ i = if b = true then fineV (setV ⟨s, t, o⟩ i.toNat (s.getD i.toNat 0) (-t.getD i.toNat 0) (if 0 < s.getD i.toNat 0 then o + (s.getD i.toNat 0 - 1) * t.getD i.toNat 0 else o)) else (zeroV, false) from fun b hb => by unfold flipV; rw [hb])
  clear h h' hw1 hx hy hg1
  cases hr : axisB ⟨s, t, o⟩ i with
  | false =>
    rw [hr] at HA
    have HF := Lib.hid (show flipV ⟨s, t, o⟩ i = (zeroV, false) by rw [HFL.out _ hr]; rfl)
    clear hr
    go_enter Try.func23, Try.ntmps23
    go_upto_region 1 with fail
    rw [← HW1.out]
    have x0 := HX.out.get 0
    have x1 := HX.out.get 1
    have x2 := HX.out.get 2
    go_wp2_with fail
    refine (HA.out _ HG1.out).mono ?_
    rintro e w2 ⟨rfl, hg⟩
    have HG2 := Lib.hid (grown_join HG1.out hg (.inr (by simp)))
    obtain ⟨q0, q1, q2, f0, f1, f2, d0, d1, d2⟩ := (HY.out.grown hg (by simp)).three8 (.slice none 0 0) (.slice none 0 0) (.int .i64 0)
    clear x0 x1 x2 hg
    go_wp2_with fail
    exact bodyPost_ret (v := .tuple #[.agg #[.slice none 0 0, .slice none 0 0, .int .i64 0], .bool false]) (by simp [results, Try.results23, go_sem, d0, d1, d2]) rfl (gaveVP_no HF.out (grown_three HG2.out (by omega) _ _ _))
  | true =>
    rw [hr] at HA
    have HAX := Lib.hid (axis_all hr)
    obtain ⟨k, rfl⟩ : ∃ k : Nat, i = k := ⟨i.toNat, by have := HAX.out.2; omega⟩
    have hkn : k < n := by have := HAX.out.2.2; rw [show (⟨s, t, o⟩ : Vw).sh.length = n from H.out.len] at this; omega
    have hkn' : k < n' := by rw [← H'.out.len, (rightV_all HAX.out.1).2.1, show (⟨s, t, o⟩ : Vw).sh.length = n from H.out.len]; exact hkn
    have HF := Lib.hid (show flipV ⟨s, t, o⟩ (k : Int) = fineV (setV ⟨s, t, o⟩ k (s.getD k 0) (-t.getD k 0) (if 0 < s.getD k 0 then o + (s.getD k 0 - 1) * t.getD k 0 else o)) by rw [HFL.out _ hr]; rfl)
    have HO := Lib.hid (show 0 ≤ o ∧ o ≤ 16777216 from ⟨(rightV_all HAX.out.1).2.2.1, (rightV_all HAX.out.1).2.2.2.1⟩)
    have HLN := Lib.hid (show 0 ≤ s.getD k 0 ∧ s.getD k 0 ≤ 1048576 from rightV_len HAX.out.1 (i := k) (by show k < s.length; rw [H.out.len]; exact hkn))
    have HST := Lib.hid (show -1048576 ≤ t.getD k 0 ∧ t.getD k 0 ≤ 1048576 from rightV_str HAX.out.1 (i := k) (by show k < s.length; rw [H.out.len]; exact hkn))
    clear hr
    go_enter Try.func23, Try.ntmps23
    go_upto_region 1 with fail
    rw [← HW1.out]
    have x0 := HX.out.get 0
    have x1 := HX.out.get 1
    have x2 := HX.out.get 2
    go_wp2_with fail
    refine (HA.out _ HG1.out).mono ?_
    rintro e w2 ⟨rfl, hg⟩
    have HG2 := Lib.hid (grown_join HG1.out hg (.inr (by simp)))
    have HX2 := Lib.hid (HX.out.grown hg (by simp))
    have HY2 := Lib.hid (HY.out.grown hg (by simp))
    clear x0 x1 x2 hg
    have x0 := HX2.out.get 0
    have x1 := HX2.out.get 1
    have x2 := HX2.out.get 2
    obtain ⟨b, off, rfl, _, hc⟩ := (H.out.grow HG2.out).1.2.at_ hkn
    obtain ⟨b', off', rfl, _, hc'⟩ := (H'.out.grow HG2.out).1.2.at_ hkn'
    generalize hu : s.getD k 0 = uu at *
    generalize hz : t.getD k 0 = zz at *
    have HU := Lib.hid hu
    have HZZ := Lib.hid hz
    have e0 : IntKind.i64.wrap (-zz) = -zz := IntWalk.i64_in _ (by have := HST.out; omega)
    have f0 : wrap64 (-zz) = -zz := IntWalk.wrap64_in _ (by have := HST.out; omega)
    clear hu hz
    by_cases h0 : 0 < uu
    · have d0 : decide (0 < uu) = true := decide_eq_true h0
      have HFX := Lib.hid (show flipV ⟨s, t, o⟩ (k : Int) = fineV (setV ⟨s, t, o⟩ k uu (-zz) (o + (uu - 1) * zz)) by rw [HF.out, if_pos h0])
      have hb6 := times_in (a := uu - 1) (z := zz) (by omega) (by have := HLN.out; omega) HST.out.1 HST.out.2
      have hoo := HO.out
      have hlu := HLN.out
      have e1 : IntKind.i64.wrap (uu - 1) = uu - 1 := IntWalk.i64_in _ (by omega)
      have e2 : IntKind.i64.wrap ((uu - 1) * zz) = (uu - 1) * zz := IntWalk.i64_in _ (by omega)
      have e3 : IntKind.i64.wrap (o + (uu - 1) * zz) = o + (uu - 1) * zz := IntWalk.i64_in _ (by omega)
      have f1 : wrap64 (uu - 1) = uu - 1 := IntWalk.wrap64_in _ (by omega)
      have f2 : wrap64 ((uu - 1) * zz) = (uu - 1) * zz := IntWalk.wrap64_in _ (by omega)
      have f3 : wrap64 (o + (uu - 1) * zz) = o + (uu - 1) * zz := IntWalk.wrap64_in _ (by omega)
      clear hb6 hoo hlu
      go_wp2_with fail
      go_quiet (fail)
      go_wp2_with fail
      obtain ⟨w2', hw2'⟩ : ∃ w2', w2' = w2.drewN nq := ⟨_, rfl⟩
      rw [← hw2']
      have HGD : Hid (w.grownBy w2' none) := Lib.hid (by rw [hw2']; exact grown_drewN HG2.out nq)
      have HXD : Hid (Box w2' _ _ _) := Lib.hid (by rw [hw2']; exact HX2.out.drewN nq)
      have HYD : Hid (Box w2' _ _ _) := Lib.hid (by rw [hw2']; exact HY2.out.drewN nq)
      clear x0 x1 x2 hc hc' hw2'
      obtain ⟨rb, hrb⟩ : ∃ rb, rightV ⟨s.set k (uu), t.set k (-zz), o + (uu - 1) * zz⟩ = rb := ⟨_, rfl⟩
      have HFN : Hid (∀ A3 n3 c3 A4 n4 c4 w', NumsF w' A3 n3 c3 (s.set k (uu)) → NumsF w' A4 n4 c4 (t.set k (-zz)) → n3 ≤ 1048576 → n4 ≤ 1048576 → Calls Try.prog 42 #[.agg #[.slice A3 n3 c3, .slice A4 n4 c4, .int .i64 (o + (uu - 1) * zz)]] w' (TellG (.tuple #[.agg #[.slice (fineA rb A3) (fineN rb n3) (fineN rb c3), .slice (fineA rb A4) (fineN rb n4) (fineN rb c4), .int .i64 (fineI rb (o + (uu - 1) * zz))], .bool rb]) w')) := Lib.hid fun A3 n3 c3 A4 n4 c4 w' h3 h4 hn3 hn4 => by rw [← hrb]; exact ref8fine_any A3 A4 n3 c3 n4 c4 _ _ _ w' h3 h4 hn3 hn4
      have HWT := Lib.hid (fun w' (hg : w.grownBy w' none) => ref8with_any (some ⟨b, off, none⟩) (some ⟨b', off', none⟩) n c n' c' s t o (uu) (-zz) (o + (uu - 1) * zz) k w' (H.out.grow hg) (H'.out.grow hg) hn hn' hkn hkn')
      have HRB := Lib.hid hrb
      have hsz : w.heap.size + 1 < w2'.heap.size := HYD.out.small
      have hln : s.length ≤ 1048576 ∧ t.length ≤ 1048576 := ⟨by rw [H.out.len]; exact hn, by rw [H'.out.len]; exact hn'⟩
      have HC0 := Lib.hid (cells8 HXD.out (H.out.grow HGD.out) (H'.out.grow HGD.out) hkn hkn' HU.out HZZ.out)
      clear hrb
      obtain ⟨y0, y1, y2, y3, y4⟩ := HC0.out
      go_region_held3 (fun w' => w'.cell? ⟨w.heap.size, 0, none⟩ = some (.slice (some ⟨b, off, none⟩) n c) ∧ w'.cell? ⟨w.heap.size, 1, none⟩ = some (.slice (some ⟨b', off', none⟩) n' c') ∧ w'.cell? ⟨w.heap.size, 2, none⟩ = some (.int .i64 o) ∧ w'.cell? ⟨b, off + k, none⟩ = some (.int .i64 uu) ∧ w'.cell? ⟨b', off' + k, none⟩ = some (.int .i64 zz)) (first | exact KEEP3.out | exact KEEP2.out | exact KEEP.out | go_keep) (first
        | (go_at_call 42; refine (HFN.out A3 n3 c3 A4 n4 c4 _ H3.out.numsF H4.out.numsF HN3.out HN4.out).mono ?_; rintro e w4 ⟨rfl, hg4⟩; have HG4 := Lib.hid (grown_join HG3.out hg4 (.inr (by simp))); have HX4 := Lib.hid (HX3.out.grown hg4 (by simp)); have HY4 := HY3.out.grown hg4 (by simp); have KEEP2 := Lib.hid (cells8 HX4.out (H.out.grow HG4.out) (H'.out.grow HG4.out) hkn hkn' HU.out HZZ.out); have HG5 := Lib.hid (grown_three HG4.out (b := w.heap.size + 1) (by omega) (.slice (fineA rb A3) (fineN rb n3) (fineN rb c3)) (.slice (fineA rb A4) (fineN rb n4) (fineN rb c4)) (.int .i64 (fineI rb (o + (uu - 1) * zz)))); have KEEP3 := Lib.hid (cells8 (box_three HX4.out (g := w.heap.size + 1) (by omega) (.slice (fineA rb A3) (fineN rb n3) (fineN rb c3)) (.slice (fineA rb A4) (fineN rb n4) (fineN rb c4)) (.int .i64 (fineI rb (o + (uu - 1) * zz)))) (H.out.grow HG5.out) (H'.out.grow HG5.out) hkn hkn' HU.out HZZ.out); obtain ⟨p0, p1, p2, f0, f1, f2, d0, d1, d2⟩ := HY4.three8 (.slice (fineA rb A3) (fineN rb n3) (fineN rb c3)) (.slice (fineA rb A4) (fineN rb n4) (fineN rb c4)) (.int .i64 (fineI rb (o + (uu - 1) * zz))); have HFIN := Lib.hid (fine_gave HRB.out (own_three (H3.out.grow hg4) HSZ.out (.slice (fineA rb A3) (fineN rb n3) (fineN rb c3)) (.slice (fineA rb A4) (fineN rb n4) (fineN rb c4)) (.int .i64 (fineI rb (o + (uu - 1) * zz)))).numsF (own_three (H4.out.grow hg4) HSZ.out (.slice (fineA rb A3) (fineN rb n3) (fineN rb c3)) (.slice (fineA rb A4) (fineN rb n4) (fineN rb c4)) (.int .i64 (fineI rb (o + (uu - 1) * zz)))).numsF HG5.out); clear hg4 HY4)
        | (go_at_call 55; refine (HWT.out _ (grown_drewN HGD.out _)).mono ?_; rintro e w3 ⟨A3, n3, c3, A4, n4, c4, rfl, h3, h4, hg3⟩; have HG3 := Lib.hid (grown_join (grown_drewN HGD.out _) hg3 (.inr (by simp))); have HX3 := Lib.hid ((HXD.out.drewN _).grown hg3 (by simp)); have HY3 := Lib.hid ((HYD.out.drewN _).grown hg3 (by simp)); have HN3 := Lib.hid (show n3 ≤ 1048576 by have h := h3.1; simp [setV] at h; omega); have HN4 := Lib.hid (show n4 ≤ 1048576 by have h := h4.1; simp [setV] at h; omega); have H3 : Hid (OwnI w3 w2'.heap.size A3 n3 c3 (s.set k (uu))) := Lib.hid h3; have H4 : Hid (OwnI w3 w2'.heap.size A4 n4 c4 (t.set k (-zz))) := Lib.hid h4; have HSZ := Lib.hid hsz; have KEEP := Lib.hid (cells8 HX3.out (H.out.grow HG3.out) (H'.out.grow HG3.out) hkn hkn' HU.out HZZ.out); clear h3 h4 hg3))
      all_goals
        go_wp2_with fail
        exact bodyPost_ret (v := .tuple #[.agg #[.slice (fineA rb A3) (fineN rb n3) (fineN rb c3), .slice (fineA rb A4) (fineN rb n4) (fineN rb c4), .int .i64 (fineI rb (o + (uu - 1) * zz))], .bool rb]) (by simp [results, Try.results23, go_sem, d0, d1, d2]) rfl (by rw [HFX.out]; exact HFIN.out)
    · have d0 : decide (0 < uu) = false := decide_eq_false h0
      have HFX := Lib.hid (show flipV ⟨s, t, o⟩ (k : Int) = fineV (setV ⟨s, t, o⟩ k uu (-zz) o) by rw [HF.out, if_neg h0])
      go_wp2_with fail
      clear x0 x1 x2 hc hc'
      obtain ⟨rb, hrb⟩ : ∃ rb, rightV ⟨s.set k (uu), t.set k (-zz), o⟩ = rb := ⟨_, rfl⟩
      have HFN : Hid (∀ A3 n3 c3 A4 n4 c4 w', NumsF w' A3 n3 c3 (s.set k (uu)) → NumsF w' A4 n4 c4 (t.set k (-zz)) → n3 ≤ 1048576 → n4 ≤ 1048576 → Calls Try.prog 42 #[.agg #[.slice A3 n3 c3, .slice A4 n4 c4, .int .i64 (o)]] w' (TellG (.tuple #[.agg #[.slice (fineA rb A3) (fineN rb n3) (fineN rb c3), .slice (fineA rb A4) (fineN rb n4) (fineN rb c4), .int .i64 (fineI rb (o))], .bool rb]) w')) := Lib.hid fun A3 n3 c3 A4 n4 c4 w' h3 h4 hn3 hn4 => by rw [← hrb]; exact ref8fine_any A3 A4 n3 c3 n4 c4 _ _ _ w' h3 h4 hn3 hn4
      have HWT := Lib.hid (fun w' (hg : w.grownBy w' none) => ref8with_any (some ⟨b, off, none⟩) (some ⟨b', off', none⟩) n c n' c' s t o (uu) (-zz) (o) k w' (H.out.grow hg) (H'.out.grow hg) hn hn' hkn hkn')
      have HRB := Lib.hid hrb
      have hsz : w.heap.size + 1 < w2.heap.size := HY2.out.small
      have hln : s.length ≤ 1048576 ∧ t.length ≤ 1048576 := ⟨by rw [H.out.len]; exact hn, by rw [H'.out.len]; exact hn'⟩
      have HC0 := Lib.hid (cells8 HX2.out (H.out.grow HG2.out) (H'.out.grow HG2.out) hkn hkn' HU.out HZZ.out)
      clear hrb
      obtain ⟨y0, y1, y2, y3, y4⟩ := HC0.out
      go_region_held3 (fun w' => w'.cell? ⟨w.heap.size, 0, none⟩ = some (.slice (some ⟨b, off, none⟩) n c) ∧ w'.cell? ⟨w.heap.size, 1, none⟩ = some (.slice (some ⟨b', off', none⟩) n' c') ∧ w'.cell? ⟨w.heap.size, 2, none⟩ = some (.int .i64 o) ∧ w'.cell? ⟨b, off + k, none⟩ = some (.int .i64 uu) ∧ w'.cell? ⟨b', off' + k, none⟩ = some (.int .i64 zz)) (first | exact KEEP3.out | exact KEEP2.out | exact KEEP.out | go_keep) (first
        | (go_at_call 42; refine (HFN.out A3 n3 c3 A4 n4 c4 _ H3.out.numsF H4.out.numsF HN3.out HN4.out).mono ?_; rintro e w4 ⟨rfl, hg4⟩; have HG4 := Lib.hid (grown_join HG3.out hg4 (.inr (by simp))); have HX4 := Lib.hid (HX3.out.grown hg4 (by simp)); have HY4 := HY3.out.grown hg4 (by simp); have KEEP2 := Lib.hid (cells8 HX4.out (H.out.grow HG4.out) (H'.out.grow HG4.out) hkn hkn' HU.out HZZ.out); have HG5 := Lib.hid (grown_three HG4.out (b := w.heap.size + 1) (by omega) (.slice (fineA rb A3) (fineN rb n3) (fineN rb c3)) (.slice (fineA rb A4) (fineN rb n4) (fineN rb c4)) (.int .i64 (fineI rb (o)))); have KEEP3 := Lib.hid (cells8 (box_three HX4.out (g := w.heap.size + 1) (by omega) (.slice (fineA rb A3) (fineN rb n3) (fineN rb c3)) (.slice (fineA rb A4) (fineN rb n4) (fineN rb c4)) (.int .i64 (fineI rb (o)))) (H.out.grow HG5.out) (H'.out.grow HG5.out) hkn hkn' HU.out HZZ.out); obtain ⟨p0, p1, p2, f0, f1, f2, d0, d1, d2⟩ := HY4.three8 (.slice (fineA rb A3) (fineN rb n3) (fineN rb c3)) (.slice (fineA rb A4) (fineN rb n4) (fineN rb c4)) (.int .i64 (fineI rb (o))); have HFIN := Lib.hid (fine_gave HRB.out (own_three (H3.out.grow hg4) HSZ.out (.slice (fineA rb A3) (fineN rb n3) (fineN rb c3)) (.slice (fineA rb A4) (fineN rb n4) (fineN rb c4)) (.int .i64 (fineI rb (o)))).numsF (own_three (H4.out.grow hg4) HSZ.out (.slice (fineA rb A3) (fineN rb n3) (fineN rb c3)) (.slice (fineA rb A4) (fineN rb n4) (fineN rb c4)) (.int .i64 (fineI rb (o)))).numsF HG5.out); clear hg4 HY4)
        | (go_at_call 55; refine (HWT.out _ (grown_drewN HG2.out _)).mono ?_; rintro e w3 ⟨A3, n3, c3, A4, n4, c4, rfl, h3, h4, hg3⟩; have HG3 := Lib.hid (grown_join (grown_drewN HG2.out _) hg3 (.inr (by simp))); have HX3 := Lib.hid ((HX2.out.drewN _).grown hg3 (by simp)); have HY3 := Lib.hid ((HY2.out.drewN _).grown hg3 (by simp)); have HN3 := Lib.hid (show n3 ≤ 1048576 by have h := h3.1; simp [setV] at h; omega); have HN4 := Lib.hid (show n4 ≤ 1048576 by have h := h4.1; simp [setV] at h; omega); have H3 : Hid (OwnI w3 w2.heap.size A3 n3 c3 (s.set k (uu))) := Lib.hid h3; have H4 : Hid (OwnI w3 w2.heap.size A4 n4 c4 (t.set k (-zz))) := Lib.hid h4; have HSZ := Lib.hid hsz; have KEEP := Lib.hid (cells8 HX3.out (H.out.grow HG3.out) (H'.out.grow HG3.out) hkn hkn' HU.out HZZ.out); clear h3 h4 hg3))
      all_goals
        go_wp2_with fail
        exact bodyPost_ret (v := .tuple #[.agg #[.slice (fineA rb A3) (fineN rb n3) (fineN rb c3), .slice (fineA rb A4) (fineN rb n4) (fineN rb c4), .int .i64 (fineI rb (o))], .bool rb]) (by simp [results, Try.results23, go_sem, d0, d1, d2]) rfl (by rw [HFX.out]; exact HFIN.out)
end Go.Proofs.Ytkpfhjjojchdlaa
