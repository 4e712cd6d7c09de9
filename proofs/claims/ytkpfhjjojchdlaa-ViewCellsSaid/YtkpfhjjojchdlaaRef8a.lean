/-
  Layer 8: the reference's Right, fine, size, axis.
-/
import Derived.Test.YtkpfhjjojchdlaaView8
import Derived.Test.YtkpfhjjojchdlaaRef7d
namespace Go.Proofs.Ytkpfhjjojchdlaa
open Go.ChangeShapes Go.WideShapes Go.ChangeAt Go.RowKit
set_option linter.unusedVariables false
set_option maxRecDepth 100000

theorem tellG_eq {v v' : Value} {w w' : World} (h : v' = v) (hg : w.grownBy w' none) : TellG v w (.returned v') w' := ⟨by rw [h], hg⟩
theorem rightV_str_no {s t : List Int} {o : Int} {i : Nat} (hi : i < t.length) (h : ¬ (-1048576 ≤ t.getD i 0 ∧ t.getD i 0 ≤ 1048576)) : rightV ⟨s, t, o⟩ = false := rightV_not fun hp => h (hp.2.2.2.2 i hi)
set_option maxHeartbeats 2000000 in
theorem ref8Right_any (A A' : Option Addr) (n c n' c' : Nat) (s t : List Int) (o : Int) (w : World) (h : Nums w w.heap.size A n s) (h' : Nums w w.heap.size A' n' t) (hn : n ≤ 1048576) (hn' : n' ≤ 1048576) :
    Calls Try.prog 16 #[.agg #[.slice A n c, .slice A' n' c', .int .i64 o]] w (TellG (.bool (rightV ⟨s, t, o⟩)) w) := by
  have HS := Lib.hid (fun w' (hg : w.grownBy w' none) => ref7Size_any A n c _ s 1048576 w' (h.grow hg) hn)
  have HL := Lib.hid h.1
  have HL' := Lib.hid h'.1
  obtain ⟨w1, hw1⟩ : ∃ w1, w1 = w.alloc (.cells #[.slice A n c, .slice A' n' c', .int .i64 o] 24) := ⟨_, rfl⟩
  have HG1 := Lib.hid (show w.grownBy w1 none by rw [hw1]; exact World.grownBy_alloc _ _ _)
  have HX := Lib.hid (show Box w1 w.heap.size 24 #[.slice A n c, .slice A' n' c', .int .i64 o] by rw [hw1]; exact Box.fresh _ _ _)
  have H' := Lib.hid (h'.grow HG1.out)
  have HW1 := Lib.hid hw1
  have HFU := Lib.hid (show sizeB s 1048576 = full s from rfl)
  clear h h' hw1
  cases hf : full s with
  | false =>
    rw [HFU.out, hf] at HS
    have HR := Lib.hid (rightV_not (v := ⟨s, t, o⟩) fun hp => absurd hp.1 (by show ¬ full s = true; rw [hf]; simp))
    clear hf
    go_enter Try.func16, Try.ntmps16
    go_upto_region 1 with fail
    rw [← HW1.out]
    have x0 := HX.out.get 0
    go_wp2_with fail
    refine (HS.out _ HG1.out).mono ?_
    rintro e w2 ⟨rfl, m, rfl⟩
    go_wp2_with fail
    go_ret
    exact tellG_eq (by rw [HR.out]; rfl) (grown_drewN HG1.out _)
  | true =>
    rw [HFU.out, hf] at HS
    have HFT := Lib.hid hf
    clear hf
    have HNOT := Lib.hid (fun hp => rightV_not (v := ⟨s, t, o⟩) hp)
    by_cases hnn : n' = n
    · subst hnn
      have d0 : ((n' : Int) != (n' : Int)) = false := by simp
      by_cases h0 : o < 0
      · have d1 : decide (o < 0) = true := decide_eq_true h0
        have HR := Lib.hid (HNOT.out fun hp => by have := hp.2.2.1; exact absurd h0 (Int.not_lt.2 this))
        clear h0
        go_enter Try.func16, Try.ntmps16
        go_upto_region 1 with fail
        rw [← HW1.out]
        have x0 := HX.out.get 0
        have x1 := HX.out.get 1
        have x2 := HX.out.get 2
        go_wp2_with fail
        refine (HS.out _ HG1.out).mono ?_
        rintro e w2 ⟨rfl, m, rfl⟩
        go_wp2_with fail
        go_ret
        exact tellG_eq (by rw [HR.out]; rfl) (grown_drewN HG1.out _)
      · have d1 : decide (o < 0) = false := decide_eq_false h0
        by_cases h1 : 16777216 < o
        · have d2 : decide (16777216 < o) = true := decide_eq_true h1
          have HR := Lib.hid (HNOT.out fun hp => by have := hp.2.2.2.1; exact absurd h1 (Int.not_lt.2 this))
          clear h0 h1
          go_enter Try.func16, Try.ntmps16
          go_upto_region 1 with fail
          rw [← HW1.out]
          have x0 := HX.out.get 0
          have x1 := HX.out.get 1
          have x2 := HX.out.get 2
          go_wp2_with fail
          refine (HS.out _ HG1.out).mono ?_
          rintro e w2 ⟨rfl, m, rfl⟩
          go_wp2_with fail
          go_ret
          exact tellG_eq (by rw [HR.out]; rfl) (grown_drewN HG1.out _)
        · have d2 : decide (16777216 < o) = false := decide_eq_false h1
          go_enter Try.func16, Try.ntmps16
          go_upto_region 1 with fail
          rw [← HW1.out]
          have x0 := HX.out.get 0
          have x1 := HX.out.get 1
          have x2 := HX.out.get 2
          go_wp2_with fail
          refine (HS.out _ HG1.out).mono ?_
          rintro e w2 ⟨rfl, m, rfl⟩
          go_wp2_with fail
          obtain ⟨w2, hw2⟩ : ∃ w2, w2 = w1.drewN m := ⟨_, rfl⟩
          rw [← hw2]
          have HX2 : Hid (Box w2 _ _ _) := Lib.hid (by rw [hw2]; exact HX.out.drewN m)
          have HG2 : Hid (w.grownBy w2 none) := Lib.hid (by rw [hw2]; exact grown_drewN HG1.out _)
          have H2 : Hid (Nums w2 w1.heap.size A' n' t) := Lib.hid (by rw [hw2]; exact H'.out.drewN m)
          have HOO := Lib.hid (show 0 ≤ o ∧ o ≤ 16777216 by omega)
          clear x0 x1 x2 hw2 h0 h1 d1 d2 d0
          have x1 := HX2.out.get 1
          go_loop [5] (fun i => ∃ k : Nat, k ≤ n' ∧ i = .int .i64 k ∧ ∀ j, j < k → -1048576 ≤ t.getD j 0 ∧ t.getD j 0 ≤ 1048576) (fun i => n' - (intOf i).toNat)
          case atStart => exact ⟨0, Nat.zero_le _, rfl, fun j hj => by omega⟩
          case round =>
            obtain ⟨k, hk, rfl, hq⟩ := hrel
            have HQ := Lib.hid hq
            clear hq
            by_cases hlt : k < n'
            · obtain ⟨b, off, rfl, _, hc⟩ := H2.out.2.at_ hlt
              generalize hv : t.getD k 0 = z at *
              have HV := Lib.hid hv
              clear hv
              by_cases h0 : z < -1048576
              · have d0 : decide (z < -1048576) = true := decide_eq_true h0
                have HR := Lib.hid (rightV_str_no (s := s) (o := o) (i := k) (t := t) (by rw [HL'.out]; exact hlt) (by rw [HV.out]; omega))
                go_wp2_with fail
                go_ret
                exact tellG_eq (by rw [HR.out]; rfl) HG2.out
              · have d0 : decide (z < -1048576) = false := decide_eq_false h0
                by_cases h1 : 1048576 < z
                · have d1 : decide ((1048576 : Int) < z) = true := decide_eq_true h1
                  have HR := Lib.hid (rightV_str_no (s := s) (o := o) (i := k) (t := t) (by rw [HL'.out]; exact hlt) (by rw [HV.out]; omega))
                  go_wp2_with fail
                  go_ret
                  exact tellG_eq (by rw [HR.out]; rfl) HG2.out
                · have d1 : decide ((1048576 : Int) < z) = false := decide_eq_false h1
                  go_wp2_with fail
                  go_round
                  case rel => exact ⟨k + 1, by omega, by go_num, fun j hj => by
                    by_cases hjk : j = k
                    · subst hjk; rw [HV.out]; omega
                    · exact HQ.out j (by omega)⟩
                  case measure => simp [intOf]; omega
            · obtain rfl : k = n' := by omega
              have HR := Lib.hid (rightV_yes (v := ⟨s, t, o⟩) ⟨HFT.out, by show t.length = s.length; rw [HL.out, HL'.out], HOO.out.1, HOO.out.2, fun i hi => HQ.out i (by rw [HL'.out] at hi; exact hi)⟩)
              go_wp2_with fail
              go_ret
              exact tellG_eq (by rw [HR.out]; rfl) HG2.out
    · have d0 : ((n' : Int) != (n : Int)) = true := by simp; omega
      have HR := Lib.hid (HNOT.out fun hp => hnn (by rw [← HL.out, ← HL'.out]; exact hp.2.1))
      clear hnn
      go_enter Try.func16, Try.ntmps16
      go_upto_region 1 with fail
      rw [← HW1.out]
      have x0 := HX.out.get 0
      have x1 := HX.out.get 1
      have x2 := HX.out.get 2
      go_wp2_with fail
      refine (HS.out _ HG1.out).mono ?_
      rintro e w2 ⟨rfl, m, rfl⟩
      go_wp2_with fail
      go_ret
      exact tellG_eq (by rw [HR.out]; rfl) (grown_drewN HG1.out _)
set_option maxHeartbeats 2000000 in
theorem ref8size_any (A A' : Option Addr) (n c n' c' : Nat) (s t : List Int) (o : Int) (w : World) (h : Nums w w.heap.size A n s) (hn : n ≤ 1048576) :
    Calls Try.prog 47 #[.agg #[.slice A n c, .slice A' n' c', .int .i64 o]] w (TellG (.int .i64 (cellsV ⟨s, t, o⟩)) w) := by
  have HS := Lib.hid (fun w' (hg : w.grownBy w' none) => ref7Size_any A n c _ s 1048576 w' (h.grow hg) hn)
  obtain ⟨w1, hw1⟩ : ∃ w1, w1 = w.alloc (.cells #[.slice A n c, .slice A' n' c', .int .i64 o] 24) := ⟨_, rfl⟩
  have HG1 := Lib.hid (show w.grownBy w1 none by rw [hw1]; exact World.grownBy_alloc _ _ _)
  have HX := Lib.hid (show Box w1 w.heap.size 24 #[.slice A n c, .slice A' n' c', .int .i64 o] by rw [hw1]; exact Box.fresh _ _ _)
  have HW1 := Lib.hid hw1
  have HFU := Lib.hid (show sizeV s 1048576 = cellsV ⟨s, t, o⟩ from rfl)
  clear h hw1
  go_enter Try.func47, Try.ntmps47
  go_upto_region 1 with fail
  rw [← HW1.out]
  have x0 := HX.out.get 0
  go_wp2_with fail
  refine (HS.out _ HG1.out).mono ?_
  rintro e w2 ⟨rfl, m, rfl⟩
  rw [HFU.out]
  go_wp2_with fail
  go_ret
  exact tellG_eq rfl (grown_drewN HG1.out _)
theorem Box.three8 {w : World} {b : Nat} {t : TypeId} {x y z : Value} (h : Box w b t #[x, y, z]) (u v s : Value) : w.cell? ⟨b, 0, none⟩ = some x ∧ w.cell? ⟨b, 1, none⟩ = some y ∧ w.cell? ⟨b, 2, none⟩ = some z ∧ w.frozen? ⟨b, 0, none⟩ = false ∧ w.frozen? ⟨b, 1, none⟩ = false ∧ w.frozen? ⟨b, 2, none⟩ = false ∧
    (((w.setCell ⟨b, 0, none⟩ u).setCell ⟨b, 1, none⟩ v).setCell ⟨b, 2, none⟩ s).cell? ⟨b, 0, none⟩ = some u ∧ (((w.setCell ⟨b, 0, none⟩ u).setCell ⟨b, 1, none⟩ v).setCell ⟨b, 2, none⟩ s).cell? ⟨b, 1, none⟩ = some v ∧ (((w.setCell ⟨b, 0, none⟩ u).setCell ⟨b, 1, none⟩ v).setCell ⟨b, 2, none⟩ s).cell? ⟨b, 2, none⟩ = some s :=
  ⟨by rw [h.get]; rfl, by rw [h.get]; rfl, by rw [h.get]; rfl, h.free 0, h.free 1, h.free 2, by rw [(((h.put 0 u).put 1 v).put 2 s).get]; rfl, by rw [(((h.put 0 u).put 1 v).put 2 s).get]; rfl, by rw [(((h.put 0 u).put 1 v).put 2 s).get]; rfl⟩
theorem grown_three {w w' : World} {b : Nat} (hg : w.grownBy w' none) (hb : w.heap.size ≤ b) (u v s : Value) : w.grownBy (((w'.setCell ⟨b, 0, none⟩ u).setCell ⟨b, 1, none⟩ v).setCell ⟨b, 2, none⟩ s) none := grown_put (grown_put (grown_put hg (.inr hb) u) (.inr hb) v) (.inr hb) s
/-- a view's own variable, and the one of the answer. -/
theorem boxes8 (w : World) (t : TypeId) (a z : Array Value) : Box ((w.alloc (.cells a t)).alloc (.cells z t)) w.heap.size t a ∧ Box ((w.alloc (.cells a t)).alloc (.cells z t)) (w.heap.size + 1) t z ∧ w.grownBy ((w.alloc (.cells a t)).alloc (.cells z t)) none :=
  ⟨(Box.fresh w t a).alloc _, by have := Box.fresh (w.alloc (.cells a t)) t z; rw [show (w.alloc (.cells a t)).heap.size = w.heap.size + 1 by simp] at this; exact this, grown_alloc (World.grownBy_alloc w _ none) _⟩
def GaveVP (p : Vw × Bool) (w : World) (e : Ending) (w' : World) : Prop := ∃ A n c A' n' c', e = .returned (.tuple #[.agg #[.slice A n c, .slice A' n' c', .int .i64 p.1.off], .bool p.2]) ∧ NumsF w' A n c p.1.sh ∧ NumsF w' A' n' c' p.1.st ∧ w.grownBy w' none
theorem gaveVP_no {p : Vw × Bool} {w w' : World} (h : p = (zeroV, false)) (hg : w.grownBy w' none) : GaveVP p w (.returned (.tuple #[.agg #[.slice none 0 0, .slice none 0 0, .int .i64 0], .bool false])) w' := by
  subst h
  exact ⟨none, 0, 0, none, 0, 0, rfl, numsF_nil _, numsF_nil _, hg⟩
theorem gaveVP_yes {p : Vw × Bool} {A A' : Option Addr} {n c n' c' : Nat} {s t : List Int} {o : Int} {w w' : World} (h : p = (⟨s, t, o⟩, true)) (h1 : NumsF w' A n c s) (h2 : NumsF w' A' n' c' t) (hg : w.grownBy w' none) : GaveVP p w (.returned (.tuple #[.agg #[.slice A n c, .slice A' n' c', .int .i64 o], .bool true])) w' := by
  subst h
  exact ⟨_, _, _, _, _, _, rfl, h1, h2, hg⟩
/-- what fine tells of each part: the view's own, or nothing. -/
def fineA (b : Bool) (A : Option Addr) : Option Addr := if b = true then A else none
def fineN (b : Bool) (n : Nat) : Nat := if b = true then n else 0
def fineI (b : Bool) (o : Int) : Int := if b = true then o else 0
theorem fine_gave {s t : List Int} {o : Int} {A A' : Option Addr} {n c n' c' : Nat} {w w' : World} {b : Bool} (hb : rightV ⟨s, t, o⟩ = b) (h1 : NumsF w' A n c s) (h2 : NumsF w' A' n' c' t) (hg : w.grownBy w' none) :
    GaveVP (fineV ⟨s, t, o⟩) w (.returned (.tuple #[.agg #[.slice (fineA b A) (fineN b n) (fineN b c), .slice (fineA b A') (fineN b n') (fineN b c'), .int .i64 (fineI b o)], .bool b])) w' := by
  cases b with
  | false => exact gaveVP_no (fine_no hb) hg
  | true => exact gaveVP_yes (fine_yes hb) h1 h2 hg
set_option maxHeartbeats 2000000 in
theorem ref8fine_any (A A' : Option Addr) (n c n' c' : Nat) (s t : List Int) (o : Int) (w : World) (h : NumsF w A n c s) (h' : NumsF w A' n' c' t) (hn : n ≤ 1048576) (hn' : n' ≤ 1048576) :
    Calls Try.prog 42 #[.agg #[.slice A n c, .slice A' n' c', .int .i64 o]] w (TellG (.tuple #[.agg #[.slice (fineA (rightV ⟨s, t, o⟩) A) (fineN (rightV ⟨s, t, o⟩) n) (fineN (rightV ⟨s, t, o⟩) c), .slice (fineA (rightV ⟨s, t, o⟩) A') (fineN (rightV ⟨s, t, o⟩) n') (fineN (rightV ⟨s, t, o⟩) c'), .int .i64 (fineI (rightV ⟨s, t, o⟩) o)], .bool (rightV ⟨s, t, o⟩)]) w) := by
  have HR := Lib.hid (fun w' (hg : w.grownBy w' none) => ref8Right_any A A' n c n' c' s t o w' (h.1.grow hg) (h'.1.grow hg) hn hn')
  have H := Lib.hid h
  have H' := Lib.hid h'
  obtain ⟨w1, hw1⟩ : ∃ w1, w1 = (w.alloc (.cells #[.slice A n c, .slice A' n' c', .int .i64 o] 24)).alloc (.cells #[.slice none 0 0, .slice none 0 0, .int .i64 0] 24) := ⟨_, rfl⟩
  have hb := boxes8 w 24 #[.slice A n c, .slice A' n' c', .int .i64 o] #[.slice none 0 0, .slice none 0 0, .int .i64 0]
  rw [← hw1] at hb
  obtain ⟨hx, hy, hg1⟩ := hb
  have HX := Lib.hid hx
  have HY := Lib.hid hy
  have HG1 := Lib.hid hg1
  have HW1 := Lib.hid hw1
  clear h h' hw1 hx hy hg1
  cases hr : rightV ⟨s, t, o⟩ with
  | false =>
    rw [hr] at HR
    clear hr
    go_enter Try.func42, Try.ntmps42
    go_upto_region 1 with fail
    rw [← HW1.out]
    have x0 := HX.out.get 0
    have x1 := HX.out.get 1
    have x2 := HX.out.get 2
    go_wp2_with fail
    refine (HR.out _ HG1.out).mono ?_
    rintro e w2 ⟨rfl, hg⟩
    have HG2 := Lib.hid (grown_join HG1.out hg (.inr (by simp)))
    obtain ⟨q0, q1, q2, f0, f1, f2, d0, d1, d2⟩ := (HY.out.grown hg (by simp)).three8 (.slice none 0 0) (.slice none 0 0) (.int .i64 0)
    clear x0 x1 x2 hg
    go_wp2_with fail
    exact bodyPost_ret (v := .tuple #[.agg #[.slice none 0 0, .slice none 0 0, .int .i64 0], .bool false]) (by simp [results, Try.results42, go_sem, d0, d1, d2]) rfl ⟨rfl, grown_three HG2.out (by omega) _ _ _⟩
  | true =>
    rw [hr] at HR
    clear hr
    go_enter Try.func42, Try.ntmps42
    go_upto_region 1 with fail
    rw [← HW1.out]
    have x0 := HX.out.get 0
    have x1 := HX.out.get 1
    have x2 := HX.out.get 2
    go_wp2_with fail
    refine (HR.out _ HG1.out).mono ?_
    rintro e w2 ⟨rfl, hg⟩
    have HG2 := Lib.hid (grown_join HG1.out hg (.inr (by simp)))
    have HG3 := Lib.hid (grown_three HG2.out (b := w.heap.size + 1) (by omega) (.slice A n c) (.slice A' n' c') (.int .i64 o))
    have hx2 := HX.out.grown hg (by simp)
    obtain ⟨q0, q1, q2, f0, f1, f2, d0, d1, d2⟩ := (HY.out.grown hg (by simp)).three8 (.slice A n c) (.slice A' n' c') (.int .i64 o)
    clear x0 x1 x2 hg
    have x0 := hx2.get 0
    have x1 := hx2.get 1
    have x2 := hx2.get 2
    go_wp2_with fail
    exact bodyPost_ret (v := .tuple #[.agg #[.slice A n c, .slice A' n' c', .int .i64 o], .bool true]) (by simp [results, Try.results42, go_sem, d0, d1, d2]) rfl ⟨rfl, HG3.out⟩
end Go.Proofs.Ytkpfhjjojchdlaa
