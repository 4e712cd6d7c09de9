/-
  Layer 8: the law package's ints, light, Own.
-/
import Derived.Test.YtkpfhjjojchdlaaRef8o
namespace Go.Proofs.Ytkpfhjjojchdlaa
open Go.ChangeShapes Go.WideShapes Go.ChangeAt Go.RowKit
set_option linter.unusedVariables false
set_option maxRecDepth 100000

theorem ints_eq8 {l l' : List Int} (hl : l.length = l'.length) (h : ∀ i, i < l.length → l.getD i 0 = l'.getD i 0) : l = l' := by
  apply List.ext_getElem hl
  intro i h1 h2
  have := h i h1
  simpa [List.getD, h1, h2] using this
set_option maxHeartbeats 1000000 in
theorem ints8_any (A A' : Option Addr) (k k' c c' : Nat) (l l' : List Int) (B B' : Nat) (w : World) (h : Nums w B A k l) (h' : Nums w B' A' k' l') (hk : k ≤ 1048576) (hk' : k' ≤ 1048576) :
    Calls Try.prog 36 #[.slice A k c, .slice A' k' c'] w (ToldV (.bool (decide (l = l'))) w) := by
  have H := Lib.hid h
  have H' := Lib.hid h'
  have HL := Lib.hid h.1
  have HL' := Lib.hid h'.1
  clear h h'
  by_cases hnn : k = k'
  · subst hnn
    go_enter Try.func36, Try.ntmps36
    go_wp2
    go_loopw [5] (fun i wr => ∃ x m : Nat, x ≤ k ∧ i = .int .i64 x ∧ (∀ j, j < x → l.getD j 0 = l'.getD j 0) ∧ wr = w.drewN m) (fun i _ => k - (intOf i).toNat)
    case atStart => exact ⟨0, 0, by omega, rfl, fun i hi => by omega, rfl⟩
    case round =>
      obtain ⟨x, m, hx, rfl, hq, hwr⟩ := hrel
      have HQ := Lib.hid hq
      clear hq
      by_cases hlt : x < k
      · obtain ⟨b, off, rfl, _, hc⟩ := (H.out.drewN m).2.at_ hlt
        obtain ⟨b', off', rfl, _, hc'⟩ := (H'.out.drewN m).2.at_ hlt
        rw [← hwr] at hc hc'
        have HW := Lib.hid hwr
        clear hwr
        generalize h1 : l.getD x 0 = v at *
        generalize h2 : l'.getD x 0 = v' at *
        have H1 := Lib.hid h1
        have H2 := Lib.hid h2
        clear h1 h2
        by_cases he : v = v'
        · subst he
          have hb : (v != v) = false := by simp
          go_wp2
          go_quiet (fail)
          go_wp2
          go_roundw
          case rel => exact ⟨x + 1, _, by omega, by go_num, fun j hj => by
            by_cases hjx : j = x
            · subst hjx; rw [H1.out, H2.out]
            · exact HQ.out j (by omega), by rw [HW.out, World.drewN_drewN]⟩
          case measure => simp [intOf]; omega
        · have hb : (v != v') = true := by simp; omega
          have HE := Lib.hid he
          clear he
          go_wp2
          go_quiet (fail)
          go_wp2
          go_ret
          rw [HW.out, World.drewN_drewN]
          refine toldV_eq (congrArg Value.bool (decide_eq_false fun hh => HE.out ?_)) w _
          rw [← H1.out, ← H2.out, hh]
      · obtain rfl : k = x := by omega
        subst hwr
        go_wp2
        go_ret
        exact toldV_eq (congrArg Value.bool (decide_eq_true (ints_eq8 (by rw [HL.out, HL'.out]) fun i hi => HQ.out i (by rw [HL.out] at hi; exact hi)))) w m
  · have hne : ((k : Int) != (k' : Int)) = true := by simp; omega
    have HNN := Lib.hid hnn
    clear hnn
    go_enter Try.func36, Try.ntmps36
    go_wp2
    go_ret
    refine toldV_eq (congrArg Value.bool (decide_eq_false fun hh => HNN.out ?_)) w 0
    rw [← HL.out, ← HL'.out, hh]


def lightB (v : Vw) (most : Int) : Bool := decide (v.sh.length ≤ 20 ∧ v.st.length ≤ 20) && (!full v.sh || decide (cellsV v ≤ most))
set_option maxHeartbeats 2000000 in
theorem light8_any (A A' : Option Addr) (n c n' c' : Nat) (s t : List Int) (o most : Int) (w : World) (h : NumsF w A n c s) (h' : NumsF w A' n' c' t) :
    Calls Try.prog 7 #[.agg #[.slice A n c, .slice A' n' c', .int .i64 o], .int .i64 most] w (TellG (.bool (lightB ⟨s, t, o⟩ most)) w) := by
  have HSI := Lib.hid (fun w' (hg : w.grownBy w' none) (hn : n ≤ 1048576) => ref7Size_any A n c _ s 1048576 w' (h.1.grow hg) hn)
  have HL := Lib.hid h.len
  have HL' := Lib.hid h'.len
  have HLB := Lib.hid (show ∀ a b d, decide (s.length ≤ 20 ∧ t.length ≤ 20) = a → full s = b → decide (sizeV s 1048576 ≤ most) = d → lightB ⟨s, t, o⟩ most = (a && (!b || d)) from fun a b d ha hb hd => by unfold lightB; rw [ha, hb, ← hd]; rfl)
  obtain ⟨w1, hw1⟩ : ∃ w1, w1 = w.alloc (.cells #[.slice A n c, .slice A' n' c', .int .i64 o] 24) := ⟨_, rfl⟩
  have hb := box8 w 24 #[.slice A n c, .slice A' n' c', .int .i64 o]
  rw [← hw1] at hb
  obtain ⟨hx, hg1⟩ := hb
  have HX := Lib.hid hx
  have HG1 := Lib.hid hg1
  have HW1 := Lib.hid hw1
  have HFU := Lib.hid (show sizeB s 1048576 = full s from rfl)
  clear h h' hw1 hx hg1
  go_enter Try.func7, Try.ntmps7
  go_upto_region 1 with fail
  rw [← HW1.out]
  have x0 := HX.out.get 0
  have x1 := HX.out.get 1
  by_cases h1 : 20 < n
  · have d1 : decide ((20 : Int) < (n : Int)) = true := by simp; omega
    have d1' : decide (20 < n) = true := decide_eq_true h1
    have HF := Lib.hid (show lightB ⟨s, t, o⟩ most = false by rw [HLB.out _ _ _ (decide_eq_false (by have := HL.out; omega)) rfl rfl]; rfl)
    clear h1
    go_wp2_with fail
    go_ret
    exact tellG_eq (by rw [HF.out]; rfl) HG1.out
  · have d1 : decide ((20 : Int) < (n : Int)) = false := by simp; omega
    have d1' : decide (20 < n) = false := decide_eq_false h1
    by_cases h2 : 20 < n'
    · have d2 : decide ((20 : Int) < (n' : Int)) = true := by simp; omega
      have d2' : decide (20 < n') = true := decide_eq_true h2
      have HF := Lib.hid (show lightB ⟨s, t, o⟩ most = false by rw [HLB.out _ _ _ (decide_eq_false (by have := HL'.out; omega)) rfl rfl]; rfl)
      clear h1 h2
      go_wp2_with fail
      go_ret
      exact tellG_eq (by rw [HF.out]; rfl) HG1.out
    · have d2 : decide ((20 : Int) < (n' : Int)) = false := by simp; omega
      have d2' : decide (20 < n') = false := decide_eq_false h2
      have HN := Lib.hid (show n ≤ 1048576 by omega)
      have HLC := Lib.hid (show ∀ b d, full s = b → decide (sizeV s 1048576 ≤ most) = d → lightB ⟨s, t, o⟩ most = (!b || d) from fun b d hb hd => by rw [HLB.out true b d (decide_eq_true (by have := HL.out; have := HL'.out; omega)) hb hd]; rfl)
      clear h1 h2
      go_wp2_with fail
      refine (HSI.out _ HG1.out HN.out).mono ?_
      rintro e w2 ⟨rfl, m, rfl⟩
      rw [HFU.out]
      cases hf : full s with
      | false =>
        have HF := Lib.hid (show lightB ⟨s, t, o⟩ most = true by rw [HLC.out _ _ hf rfl]; rfl)
        clear hf
        go_wp2_with fail
        go_ret
        exact tellG_eq (by rw [HF.out]; rfl) (grown_drewN HG1.out _)
      | true =>
        have HF := Lib.hid (show lightB ⟨s, t, o⟩ most = decide (sizeV s 1048576 ≤ most) by rw [HLC.out _ _ hf rfl]; rfl)
        clear hf
        generalize sizeV s 1048576 = sv at *
        go_wp2_with fail
        go_ret
        exact tellG_eq (by rw [HF.out]; rfl) (grown_drewN HG1.out _)
theorem boxes8b (w : World) (t t' : TypeId) (a z : Array Value) : Box ((w.alloc (.cells a t)).alloc (.cells z t')) w.heap.size t a ∧ Box ((w.alloc (.cells a t)).alloc (.cells z t')) (w.heap.size + 1) t' z ∧ w.grownBy ((w.alloc (.cells a t)).alloc (.cells z t')) none :=
  ⟨(Box.fresh w t a).alloc _, by have := Box.fresh (w.alloc (.cells a t)) t' z; rw [show (w.alloc (.cells a t)).heap.size = w.heap.size + 1 by simp] at this; exact this, grown_alloc (World.grownBy_alloc w _ none) _⟩
set_option maxHeartbeats 2000000 in
theorem own8_any (A A' : Option Addr) (n c n' c' : Nat) (o : Int) (w : World) :
    Calls Try.prog 9 #[.agg #[.slice A n c, .slice A' n' c', .int .i64 o]] w (TellG (.agg #[.slice A n c, .slice A' n' c', .int .i64 o]) w) := by
  obtain ⟨w1, hw1⟩ : ∃ w1, w1 = (w.alloc (.cells #[.slice A n c, .slice A' n' c', .int .i64 o] 24)).alloc (.cells #[.slice none 0 0, .slice none 0 0, .int .i64 0] 29) := ⟨_, rfl⟩
  have hb := boxes8b w 24 29 #[.slice A n c, .slice A' n' c', .int .i64 o] #[.slice none 0 0, .slice none 0 0, .int .i64 0]
  rw [← hw1] at hb
  obtain ⟨hx, hy, hg1⟩ := hb
  have HX := Lib.hid hx
  have HG1 := Lib.hid hg1
  have HW1 := Lib.hid hw1
  obtain ⟨q0, q1, q2, f0, f1, f2, d0, d1, d2⟩ := hy.three8 (.slice A n c) (.slice A' n' c') (.int .i64 o)
  have HG2 := Lib.hid (grown_three hg1 (b := w.heap.size + 1) (by omega) (.slice A n c) (.slice A' n' c') (.int .i64 o))
  clear hw1 hx hy hg1
  go_enter Try.func9, Try.ntmps9
  go_upto_region 1 with fail
  rw [← HW1.out]
  have x0 := HX.out.get 0
  have x1 := HX.out.get 1
  have x2 := HX.out.get 2
  go_wp2_with fail
  exact bodyPost_ret (v := .agg #[.slice A n c, .slice A' n' c', .int .i64 o]) (by simp [results, Try.results9, go_sem, d0, d1, d2]) rfl ⟨rfl, HG2.out⟩
set_option maxHeartbeats 2000000 in
theorem offsets8_any (A A' : Option Addr) (n c n' c' : Nat) (s t : List Int) (o : Int) (w : World) (h : NumsF w A n c s) (h' : NumsF w A' n' c' t) (hn : n ≤ 1048576) (hn' : n' ≤ 1048576) (hr : rightV ⟨s, t, o⟩ = true) :
    Calls Try.prog 37 #[.agg #[.slice A n c, .slice A' n' c', .int .i64 o]] w (GaveInts (offsL ⟨s, t, o⟩) w) := by
  have HOF := Lib.hid (fun w' (hg : w.grownBy w' none) => ref8Offsets_any A A' n c n' c' s t o w' (h.grow hg) (h'.grow hg) hn hn' hr)
  obtain ⟨w1, hw1⟩ : ∃ w1, w1 = w.alloc (.cells #[.slice A n c, .slice A' n' c', .int .i64 o] 29) := ⟨_, rfl⟩
  have hb := box8 w 29 #[.slice A n c, .slice A' n' c', .int .i64 o]
  rw [← hw1] at hb
  obtain ⟨hx, hg1⟩ := hb
  have HX := Lib.hid hx
  have HG1 := Lib.hid hg1
  have HW1 := Lib.hid hw1
  clear h h' hr hw1 hx hg1
  go_enter Try.func37, Try.ntmps37
  go_upto_region 1 with fail
  rw [← HW1.out]
  have x0 := HX.out.get 0
  have x1 := HX.out.get 1
  have x2 := HX.out.get 2
  go_wp2_with fail
  refine (HOF.out _ HG1.out).mono ?_
  rintro e w2 ⟨B, d, rfl, ho, hg⟩
  have HO := Lib.hid ho
  have HG2 := Lib.hid (grown_join HG1.out hg (.inr (by simp)))
  clear ho hg x0 x1 x2
  go_wp2_with fail
  go_ret
  exact gave_ints rfl (HO.out.lower HG1.out.size) HG2.out
set_option maxHeartbeats 2000000 in
theorem same8_any (A A' B B' : Option Addr) (n c n' c' m d m' d' : Nat) (s t : List Int) (o : Int) (b : Bool) (w : World) (h : NumsF w A n c s) (h' : NumsF w A' n' c' t) (k : NumsF w B m d s) (k' : NumsF w B' m' d' t) (hn : s.length ≤ 1048576) (hn' : t.length ≤ 1048576) :
    Calls Try.prog 17 #[.agg #[.slice A n c, .slice A' n' c', .int .i64 o], .bool b, .agg #[.slice B m d, .slice B' m' d', .int .i64 o], .bool b] w (TellG (.bool true) w) := by
  have HI1 := Lib.hid (fun w' (hg : w.grownBy w' none) => ints8_any A B n m c d s s _ _ w' (h.1.grow hg) (k.1.grow hg) (by rw [← h.len]; exact hn) (by rw [← k.len]; exact hn))
  have HI2 := Lib.hid (fun w' (hg : w.grownBy w' none) => ints8_any A' B' n' m' c' d' t t _ _ w' (h'.1.grow hg) (k'.1.grow hg) (by rw [← h'.len]; exact hn') (by rw [← k'.len]; exact hn'))
  rw [show decide (s = s) = true from decide_eq_true rfl] at HI1
  rw [show decide (t = t) = true from decide_eq_true rfl] at HI2
  obtain ⟨w1, hw1⟩ : ∃ w1, w1 = (w.alloc (.cells #[.slice A n c, .slice A' n' c', .int .i64 o] 29)).alloc (.cells #[.slice B m d, .slice B' m' d', .int .i64 o] 24) := ⟨_, rfl⟩
  have hb := boxes8b w 29 24 #[.slice A n c, .slice A' n' c', .int .i64 o] #[.slice B m d, .slice B' m' d', .int .i64 o]
  rw [← hw1] at hb
  obtain ⟨hx, hy, hg1⟩ := hb
  have HX := Lib.hid hx
  have HY := Lib.hid hy
  have HG1 := Lib.hid hg1
  have HW1 := Lib.hid hw1
  have e0 : (o == o) = true := by simp
  have e1 : (b == b) = true := by simp
  clear h h' k k' hw1 hx hy hg1
  go_enter Try.func17, Try.ntmps17
  go_upto_region 1 with fail
  rw [← HW1.out]
  have x0 := HX.out.get 0
  have y0 := HY.out.get 0
  go_wp2_with fail
  refine (HI1.out _ HG1.out).mono ?_
  rintro e w2 ⟨rfl, m1, rfl⟩
  clear x0 y0
  have x1 := (HX.out.drewN m1).get 1
  have y1 := (HY.out.drewN m1).get 1
  go_wp2_with fail
  refine (HI2.out _ (grown_drewN HG1.out m1)).mono ?_
  rintro e w3 ⟨rfl, m2, rfl⟩
  clear x1 y1
  have x2 := ((HX.out.drewN m1).drewN m2).get 2
  have y2 := ((HY.out.drewN m1).drewN m2).get 2
  rw [World.drewN_drewN] at x2 y2 ⊢
  go_wp2_with fail
  go_ret
  exact tellG_eq (by simp) (grown_drewN HG1.out _)
end Go.Proofs.Ytkpfhjjojchdlaa
