/-
  Texts of this claim, one behind the other.
-/
import Derived.Lib.SliceRun
import Derived.Deep.DeepCutAuto
import Derived.Orders
import Derived.Test.YtdjenakmdjiknaaPack1
import Derived.Test.YtdjenakmdjiknaaPack2
import Derived.Test.YtdjenakmdjiknaaPack3
import Derived.Test.YtdjenakmdjiknaaPack4
import Derived.Test.YtdjenakmdjiknaaPack5
import Derived.Test.YtdjenakmdjiknaaPack6
import Derived.Test.YtdjenakmdjiknaaPack7
import Derived.Test.YtdjenakmdjiknaaPack8
import Derived.Test.YtdjenakmdjiknaaPack9
import Derived.Test.YtdjenakmdjiknaaPack10

/-! Layer 8: the reference's New. -/
section
namespace Go.Proofs.Ytdjenakmdjiknaa
open Go.ChangeShapes Go.WideShapes Go.ChangeAt Go.RowKit
set_option linter.unusedVariables false
set_option maxRecDepth 100000

/-- a view is told, or none, whose rows are the call's own. -/
def GaveVQ (p : Vw × Bool) (w : World) (e : Ending) (w' : World) : Prop := ∃ A n c A' n' c', e = .returned (.tuple #[.agg #[.slice A n c, .slice A' n' c', .int .i64 p.1.off], .bool p.2]) ∧ OwnI w' w.heap.size A n c p.1.sh ∧ OwnI w' w.heap.size A' n' c' p.1.st ∧ w.grownBy w' none
theorem gaveVQ_no {p : Vw × Bool} {w w' : World} (h : p = (zeroV, false)) (hg : w.grownBy w' none) : GaveVQ p w (.returned (.tuple #[.agg #[.slice none 0 0, .slice none 0 0, .int .i64 0], .bool false])) w' := by
  subst h
  exact ⟨none, 0, 0, none, 0, 0, rfl, OwnI.nil _ _, OwnI.nil _ _, hg⟩
theorem fine_gaveQ {s t : List Int} {o : Int} {A A' : Option Addr} {n c n' c' : Nat} {w w' : World} {b : Bool} (hb : rightV ⟨s, t, o⟩ = b) (h1 : OwnI w' w.heap.size A n c s) (h2 : OwnI w' w.heap.size A' n' c' t) (hg : w.grownBy w' none) :
    GaveVQ (fineV ⟨s, t, o⟩) w (.returned (.tuple #[.agg #[.slice (fineA b A) (fineN b n) (fineN b c), .slice (fineA b A') (fineN b n') (fineN b c'), .int .i64 (fineI b o)], .bool b])) w' := by
  cases b with
  | false => exact gaveVQ_no (fine_no hb) hg
  | true => rw [fine_yes hb]; exact ⟨_, _, _, _, _, _, rfl, h1, h2, hg⟩
theorem nil8 (A : Option Addr) (n c : Nat) (w : World) : (binOp .eql 22 (.slice A n c) (.slice none 0 0)).run Try.prog w = .ok (.bool A.isNone) w :=
  Lib.run_eql_slice_nil w 22 3 A n c 0 0 Try.underlying22
theorem strides_len (s : List Int) : (stridesL s).length ≤ s.length := by
  by_cases h : strB s = true
  · rw [stride_yes h, fill_length]; exact Nat.le_refl _
  · unfold stridesL; rw [if_neg h]; exact Nat.zero_le _
end Go.Proofs.Ytdjenakmdjiknaa
end

/-! Layer 8, the program's own: changed. · Layer 8, the program's own: changed with none, one and two changes; what the answers are, plain; run. -/
section
/-! Layer 8, the program's own: changed. -/
section
namespace Go.Proofs.Ytdjenakmdjiknaa
open Go.ChangeShapes Go.WideShapes Go.ChangeAt Go.RowKit
set_option linter.unusedVariables false
set_option maxRecDepth 100000

/-- changes one behind the other: what each makes of what the ones ahead of it made. -/
structure Chain (w : World) (m : Nat) (fs : Nat → FuncId) (caps : Nat → Array Value) (V : Nat → Vw) (ok : Nat → Bool) : Prop where
  plain : ∀ k, k < m → PlainF (fs k)
  does : ∀ k, k < m → (∀ j, j < k → ok j = true) → Does w (fs k) (caps k) (V k) (V (k + 1)) (ok k)
def chB (m : Nat) (ok : Nat → Bool) : Bool := decide (∀ k, k < m → ok k = true)
def chV (v : Vw) (m : Nat) (V : Nat → Vw) (ok : Nat → Bool) : Vw × Bool := if (rightV v && chB m ok) = true then fineV (V m) else (zeroV, false)
def Alls (w : World) (B : Option Addr) (m : Nat) (fs : Nat → FuncId) (caps : Nat → Array Value) : Prop := ∀ k, k < m → ∃ b : Nat, B = some ⟨b, 0, none⟩ ∧ b < w.heap.size ∧ w.cell? ⟨b, k, none⟩ = some (.func (.func (fs k)) #[] (caps k))
theorem Alls.grow {w w' : World} {B : Option Addr} {m : Nat} {fs : Nat → FuncId} {caps : Nat → Array Value} (h : Alls w B m fs caps) (hg : w.grownBy w' none) : Alls w' B m fs caps := fun k hk => by
  obtain ⟨b, e, hb, hc⟩ := h k hk
  exact ⟨b, e, Nat.lt_of_lt_of_le hb hg.size, (hg.cell_far ⟨b, k, none⟩ hb (by simp)).trans hc⟩
theorem vis_three {w : World} {base k n c n' c' : Nat} {A A' : Option Addr} {s t : List Int} {o : Int} {x y z : Value} (hb : Box w k 34 #[x, y, z]) (h1 : OwnI w base A n c s) (h2 : OwnI w base A' n' c' t) (hk : base ≤ k) (ne : A.map (·.block) ≠ some k) (ne' : A'.map (·.block) ≠ some k) (ap : A.map (·.block) = none ∨ A.map (·.block) ≠ A'.map (·.block)) :
    VIs (((w.setCell ⟨k, 0, none⟩ (.slice A n c)).setCell ⟨k, 1, none⟩ (.slice A' n' c')).setCell ⟨k, 2, none⟩ (.int .i64 o)) base k A n c A' n' c' ⟨s, t, o⟩ :=
  ⟨((hb.put 0 (.slice A n c)).put 1 (.slice A' n' c')).put 2 (.int .i64 o), own_put_other (own_put_other (own_put_other h1 ne _) ne _) ne _, own_put_other (own_put_other (own_put_other h2 ne' _) ne' _) ne' _, hk, ne, ne', ap⟩
/-- what stands behind the making of the copy. -/
def Made8 (w2 : World) (s t : List Int) (o : Int) (v : Value) (w' : World) : Prop := ∃ b : Nat, v = .pointer (some ⟨b, 0, none⟩) ∧ VBox w' w2.heap.size b ⟨s, t, o⟩ ∧ w2.grownBy w' none
theorem made_last {w2 w3 w4 : World} {A3 A4 : Option Addr} {n c3 n' c4 : Nat} {s t : List Int} {o : Int} (h3 : OwnI w3 w2.heap.size A3 n c3 s) (h34 : w3.grownBy w4 none) (h4 : OwnI w4 w3.heap.size A4 n' c4 t) (h23 : w2.grownBy w3 none) :
    Made8 w2 s t o (.pointer (some ⟨w4.heap.size, 0, none⟩)) (w4.alloc (.cells #[.slice A3 n c3, .slice A4 n' c4, .int .i64 o] 34)) := by
  have s1 := h23.size
  have s2 := h34.size
  have hg := World.grownBy_alloc w4 (.cells #[.slice A3 n c3, .slice A4 n' c4, .int .i64 o] 34) none
  refine ⟨w4.heap.size, rfl, ⟨A3, n, c3, A4, n', c4, Box.fresh _ _ _, (h3.grow h34).grow hg, (h4.grow hg).lower s1, by omega, fun e => by have := own_low8 h3 e; omega, fun e => by have := own_low8 h4 e; omega, ?_⟩, grown_alloc (grown_join h23 h34 (.inr (by simp))) _⟩
  cases hq : A3.map (·.block) with
  | none => exact .inl rfl
  | some g =>
    refine .inr fun e => ?_
    have h1 := own_low8 h3 hq
    have h2 := own_low8 h4 e.symm
    omega
theorem made_put {w2 w3 w4 : World} {k b3 b4 : Nat} {A3 A4 : Option Addr} {n c3 n' c4 : Nat} {s t : List Int} {o : Int} {x y z : Value} (h3 : OwnI w3 b3 A3 n c3 s) (h34 : w3.grownBy w4 none) (h4 : OwnI w4 b4 A4 n' c4 t) (h23 : w2.grownBy w3 none) (hb : Box w4 k 34 #[x, y, z]) (hk : w2.heap.size ≤ k)
    (l3 : w2.heap.size ≤ b3) (l4 : w3.heap.size ≤ b4) (n3 : k < b3 ∨ w3.heap.size ≤ k) (n4 : k < b4) :
    Made8 w2 s t o (.pointer (some ⟨k, 0, none⟩)) (((w4.setCell ⟨k, 0, none⟩ (.slice A3 n c3)).setCell ⟨k, 1, none⟩ (.slice A4 n' c4)).setCell ⟨k, 2, none⟩ (.int .i64 o)) := by
  have s1 := h23.size
  have s2 := h34.size
  refine ⟨k, rfl, ⟨A3, n, c3, A4, n', c4, vis_three hb ((h3.grow h34).lower l3) (h4.lower (by omega)) hk (fun e => by have := own_low8 h3 e; omega) (fun e => by have := own_low8 h4 e; omega) ?_⟩, grown_three (grown_join h23 h34 (.inr (by simp))) hk _ _ _⟩
  cases hq : A3.map (·.block) with
  | none => exact .inl rfl
  | some g =>
    refine .inr fun e => ?_
    have h1 := own_low8 h3 hq
    have h2 := own_low8 h4 e.symm
    omega
set_option maxHeartbeats 4000000 in
theorem own8_changed (A A' : Option Addr) (n c n' c' : Nat) (s t : List Int) (o : Int) (B : Option Addr) (m d : Nat) (fs : Nat → FuncId) (caps : Nat → Array Value) (V : Nat → Vw) (ok : Nat → Bool) (w : World) (h : NumsF w A n c s) (h' : NumsF w A' n' c' t) (hn : n ≤ 1048576) (hn' : n' ≤ 1048576)
    (ha : Alls w B m fs caps) (hm : m ≤ 1048576) (hV : V 0 = ⟨s, t, o⟩) (hch : rightV ⟨s, t, o⟩ = true → Chain w m fs caps V ok) (hlen : rightV ⟨s, t, o⟩ = true → (∀ k, k < m → ok k = true) → (V m).sh.length ≤ 1048576 ∧ (V m).st.length ≤ 1048576) :
    Calls Try.prog 46 #[.agg #[.slice A n c, .slice A' n' c', .int .i64 o], .slice B m d] w (GaveVQ (chV ⟨s, t, o⟩ m V ok) w) := by
  have HR := Lib.hid (fun w' (hg : w.grownBy w' none) => own8_right A A' n c n' c' s t o w' (h.grow hg) (h'.grow hg) hn hn')
  have H := Lib.hid h
  have H' := Lib.hid h'
  have HA := Lib.hid ha
  obtain ⟨w1, hw1⟩ : ∃ w1, w1 = (w.alloc (.cells #[.slice A n c, .slice A' n' c', .int .i64 o] 34)).alloc (.cells #[.slice none 0 0, .slice none 0 0, .int .i64 0] 34) := ⟨_, rfl⟩
  have hb := boxes8 w 34 #[.slice A n c, .slice A' n' c', .int .i64 o] #[.slice none 0 0, .slice none 0 0, .int .i64 0]
  rw [← hw1] at hb
  obtain ⟨hx, hy, hg1⟩ := hb
  have HX := Lib.hid hx
  have HY := Lib.hid hy
  have HG1 := Lib.hid hg1
  have HW1 := Lib.hid hw1
  have HSZ := Lib.hid (show w.heap.size + 1 < w1.heap.size from hy.small)
  have HCH := Lib.hid hch
  have HLE := Lib.hid hlen
  have HV := Lib.hid hV
  have HGR := Lib.hid (show ∀ b d, rightV ⟨s, t, o⟩ = b → chB m ok = d → chV ⟨s, t, o⟩ m V ok = if (b && d) = true then fineV (V m) else (zeroV, false) from fun b d hb hd => by unfold chV; rw [hb, hd])
  clear h h' ha hw1 hx hy hg1 hch hlen hV
  cases hr : rightV ⟨s, t, o⟩ with
  | false =>
    rw [hr] at HR
    have HF := Lib.hid (show chV ⟨s, t, o⟩ m V ok = (zeroV, false) by rw [HGR.out _ _ hr rfl]; rfl)
    clear hr
    go_enter Try.func46, Try.ntmps46
    go_upto_region 1 with fail
    rw [← HW1.out]
    have x0 := HX.out.get 0
    have x1 := HX.out.get 1
    have x2 := HX.out.get 2
    go_wp2_with fail
    refine (HR.out _ HG1.out).mono ?_
    rintro e w2 ⟨rfl, hg⟩
    have HG2 := Lib.hid (grown_join HG1.out hg (.inr (by simp)))
    obtain ⟨q0, q1, q2, f0, f1, f2, d0, d1, d2⟩ := (HY.out.grown hg (by simp)).three8 (.slice none 0 0) (.slice none 0 0) (.int .i64 0)
    clear x0 x1 x2 hg
    go_wp2_with fail
    exact bodyPost_ret (v := .tuple #[.agg #[.slice none 0 0, .slice none 0 0, .int .i64 0], .bool false]) (by simp [results, Try.results46, go_sem, d0, d1, d2]) rfl (gaveVQ_no HF.out (grown_three HG2.out (by omega) _ _ _))
  | true =>
    rw [hr] at HR
    have HRT := Lib.hid hr
    have HCC := Lib.hid (HCH.out hr)
    have HLL := Lib.hid (HLE.out hr)
    clear hr HCH HLE
    go_enter Try.func46, Try.ntmps46
    go_upto_region 1 with fail
    rw [← HW1.out]
    have x0 := HX.out.get 0
    have x1 := HX.out.get 1
    have x2 := HX.out.get 2
    go_wp2_with fail
    refine (HR.out _ HG1.out).mono ?_
    rintro e w2 ⟨rfl, hg⟩
    have HG12 := Lib.hid hg
    have HG2 := Lib.hid (grown_join HG1.out hg (.inr (by simp)))
    have HX2 := Lib.hid (HX.out.grown hg (by simp))
    have HY2 := Lib.hid (HY.out.grown hg (by simp))
    have HS2 := Lib.hid (show w1.heap.size ≤ w2.heap.size from hg.size)
    clear x0 x1 x2 hg
    obtain ⟨x0, x1, x2, _, _, _⟩ := box_three_cells HX2.out
    go_upto_region 3 with fail
    go_cut [6] (fun v wx => Made8 w2 s t o v wx)
    case first =>
      have HC := Lib.hid (show ∀ w', w2.grownBy w' none → w'.cell? ⟨w.heap.size, 0, none⟩ = some (.slice A n c) ∧ w'.cell? ⟨w.heap.size, 1, none⟩ = some (.slice A' n' c') ∧ w'.cell? ⟨w.heap.size, 2, none⟩ = some (.int .i64 o) from fun w' hg => by
        obtain ⟨x0, x1, x2, _, _, _⟩ := box_three_cells (HX2.out.grown hg (by simp))
        exact ⟨x0, x1, x2⟩)
      have HCL := Lib.hid (fun w' (hg : w2.grownBy w' none) => own7_clone A n c s w' (H.out.grow (grown_join HG2.out hg (.inr (by simp)))) hn)
      have HCM := Lib.hid (fun w' (hg : w2.grownBy w' none) => own8_clone A' n' c' t w' (H'.out.grow (grown_join HG2.out hg (.inr (by simp)))) hn')
      have HL := Lib.hid H.out.len
      have HL' := Lib.hid H'.out.len
      go_region_held3 (fun w' => w'.cell? ⟨w.heap.size, 0, none⟩ = some (.slice A n c) ∧ w'.cell? ⟨w.heap.size, 1, none⟩ = some (.slice A' n' c') ∧ w'.cell? ⟨w.heap.size, 2, none⟩ = some (.int .i64 o)) (first | exact HC.out _ (by repeat (first | exact grown_refl _ _ | exact HG4.out | exact HG3.out | refine grown_drew ?_ | refine grown_drewN ?_ _ | refine grown_alloc ?_ _ | refine grown_put ?_ (.inr (by first | exact Nat.le_refl _ | exact HG3.out.size | exact HG4.out.size)) _)) | go_keep) (first
        | (go_at_call 58; refine (HCL.out _ (by repeat (first | exact grown_refl _ _ | refine grown_drewN ?_ _ | refine grown_drew ?_ | refine grown_alloc ?_ _))).mono ?_; rintro e w3 ⟨A3, c3, rfl, ho3, hg3⟩; rw [HL.out] at ho3 ⊢; have HO3 := Lib.hid ho3; have HR3 := Lib.hid hg3; have HG3 : Hid (w2.grownBy w3 none) := Lib.hid (grown_join (by repeat (first | exact grown_refl _ _ | refine grown_drewN ?_ _ | refine grown_drew ?_ | refine grown_alloc ?_ _)) hg3 (.inr (by simp))); clear ho3 hg3)
        | (go_at_call 59; refine (HCM.out _ (by repeat (first | exact HG3.out | refine grown_drewN ?_ _ | refine grown_drew ?_ | refine grown_alloc ?_ _))).mono ?_; rintro e w4 ⟨A4, c4, rfl, ho4, hg4⟩; rw [HL'.out] at ho4 ⊢; have HO4 := Lib.hid ho4; have HR4 := Lib.hid hg4; have HG4 : Hid (w2.grownBy w4 none) := Lib.hid (grown_join (by repeat (first | exact HG3.out | refine grown_drewN ?_ _ | refine grown_drew ?_ | refine grown_alloc ?_ _)) hg4 (.inr (by simp))); clear ho4 hg4; first | (have hbx : Box w4 w2.heap.size 34 #[.slice none 0 0, .slice none 0 0, .int .i64 0] := (Box.grown (by first | exact Box.fresh _ _ _ | exact Box.fresh w2 _ _) HR3.out (by simp)).grown HR4.out (by simp); have HBX := Lib.hid hbx; obtain ⟨q0, q1, q2, g0, g1, g2⟩ := box_three_cells hbx; clear hbx) | (have hbx : Box w4 w3.heap.size 34 #[.slice none 0 0, .slice none 0 0, .int .i64 0] := Box.grown (by first | exact Box.fresh _ _ _ | exact Box.fresh w3 _ _) HR4.out (by simp); have HBX := Lib.hid hbx; obtain ⟨q0, q1, q2, g0, g1, g2⟩ := box_three_cells hbx; clear hbx) | skip))
      all_goals
        go_wp2_with fail
        go_meet
        first
        | exact made_last HO3.out HR4.out HO4.out HG3.out
        | exact made_put HO3.out (by first | exact HR4.out | exact grown_join (World.grownBy_alloc _ _ _) HR4.out (.inr (by simp))) HO4.out HG3.out HBX.out (by first | exact Nat.le_refl _ | exact HG3.out.size) (by simp) (by simp) (by first | exact .inr (Nat.le_refl _) | exact .inl (by simp)) (by first | (simp; done) | (have := HR3.out.size; simp at this; omega))
    case rest =>
      obtain ⟨b, rfl, hvb, hg⟩ := hcut
      have HVB := Lib.hid hvb
      have HGC := Lib.hid hg
      clear hvb hg x0 x1 x2
      go_wp2_with fail
      go_loopw [24] (fun i wr => ∃ k : Nat, k ≤ m ∧ i = .int .i64 k ∧ (∀ j, j < k → ok j = true) ∧ VBox wr w2.heap.size b (V k) ∧ w2.grownBy wr none) (fun i _ => m - (intOf i).toNat)
      case atStart => exact ⟨0, Nat.zero_le _, rfl, fun j hj => by omega, by rw [HV.out]; exact HVB.out, HGC.out⟩
      case round =>
        obtain ⟨k, hk, rfl, hq, hvb, hg⟩ := hrel
        have HVK := Lib.hid hvb
        have HGW := Lib.hid hg
        have HQ := Lib.hid hq
        have HG3 := Lib.hid (grown_join HG2.out hg (.inr (by simp)))
        have HY3 := Lib.hid (HY2.out.grown hg (by simp))
        clear hvb hg hq
        by_cases hlt : k < m
        · obtain ⟨g, hB, hgb, hc⟩ := HA.out.grow HG3.out k hlt
          subst hB
          have hpl := HCC.out.plain k hlt
          have hd := HCC.out.does k hlt HQ.out wr w2.heap.size b HG3.out HG2.out.size HVK.out
          have hff : ok k = false → chB m ok = false := fun hk => decide_eq_false fun h => by rw [h k hlt] at hk; cases hk
          have HFF := Lib.hid hff
          have HNX := Lib.hid (show ok k = true → ∀ j, j < k + 1 → ok j = true from fun hh j hj => by
            by_cases e : j = k
            · rw [e]; exact hh
            · exact HQ.out j (by omega))
          unfold PlainF at hpl
          generalize fs k = f at *
          generalize caps k = cap at *
          generalize hok : ok k = kk at *
          have HOK := Lib.hid hok
          have HD := Lib.hid hd
          clear hd hff hok
          cases kk with
          | true =>
            go_wp2_with fail
            refine HD.out.mono ?_
            rintro e w5 ⟨rfl, hu, hv⟩
            have HG5 := Lib.hid (hu w2 HGW.out (Nat.le_refl _))
            have HV5 := Lib.hid (hv rfl)
            have HNXT := Lib.hid (HNX.out (by first | rfl | trivial))
            clear hu hv
            go_wp2_with fail
            go_roundw
            case rel => exact ⟨k + 1, by omega, by go_num, HNXT.out, HV5.out, HG5.out⟩
            case measure => simp [intOf]; omega
          | false =>
            have HF := Lib.hid (show chV ⟨s, t, o⟩ m V ok = (zeroV, false) by rw [HGR.out _ _ HRT.out (HFF.out (by first | rfl | trivial))]; rfl)
            go_wp2_with fail
            refine HD.out.mono ?_
            rintro e w5 ⟨rfl, hu, _⟩
            have HG5 := Lib.hid (hu w2 HGW.out (Nat.le_refl _))
            have HG6 := Lib.hid (grown_join HG2.out HG5.out (.inr (by simp)))
            obtain ⟨q0, q1, q2, f0, f1, f2, d0, d1, d2⟩ := (HY2.out.grown HG5.out (by simp)).three8 (.slice none 0 0) (.slice none 0 0) (.int .i64 0)
            clear hu
            go_wp2_with fail
            exact bodyPost_ret (v := .tuple #[.agg #[.slice none 0 0, .slice none 0 0, .int .i64 0], .bool false]) (by simp [results, Try.results46, go_sem, d0, d1, d2]) rfl (gaveVQ_no HF.out (grown_three HG6.out (by omega) _ _ _))
        · obtain rfl : k = m := by omega
          have hcb : chB k ok = true := decide_eq_true HQ.out
          have HGRR := Lib.hid (show chV ⟨s, t, o⟩ k V ok = fineV (V k) by rw [HGR.out _ _ HRT.out hcb]; rfl)
          obtain ⟨A5, n5, c5, A6, n6, c6, hvi⟩ := HVK.out
          have hll := HLL.out HQ.out
          obtain ⟨v, hvv⟩ : ∃ v, v = V k := ⟨_, rfl⟩
          rw [← hvv] at hvi hll HGRR
          obtain ⟨s5, t5, o5⟩ := v
          have hn5 : n5 ≤ 1048576 := by rw [← hvi.sh.1]; exact hll.1
          have hn6 : n6 ≤ 1048576 := by rw [← hvi.st.1]; exact hll.2
          have HR5 := Lib.hid (own8_right A5 A6 n5 c5 n6 c6 s5 t5 o5 wr hvi.sh.numsF hvi.st.numsF hn5 hn6)
          have HVI := Lib.hid hvi
          obtain ⟨z0, z1, z2, _, _, _⟩ := box_three_cells hvi.box
          clear hvi hll hvv hcb
          cases hr5 : rightV ⟨s5, t5, o5⟩ with
          | false =>
            rw [hr5] at HR5
            have HF := Lib.hid (show chV ⟨s, t, o⟩ k V ok = (zeroV, false) by rw [HGRR.out]; exact fine_no hr5)
            clear hr5
            go_wp2_with fail
            refine HR5.out.mono ?_
            rintro e w5 ⟨rfl, hg⟩
            have HG6 := Lib.hid (grown_join HG3.out hg (.inr (by simp)))
            obtain ⟨q0, q1, q2, f0, f1, f2, d0, d1, d2⟩ := (HY3.out.grown hg (by simp)).three8 (.slice none 0 0) (.slice none 0 0) (.int .i64 0)
            clear hg z0 z1 z2
            go_wp2_with fail
            exact bodyPost_ret (v := .tuple #[.agg #[.slice none 0 0, .slice none 0 0, .int .i64 0], .bool false]) (by simp [results, Try.results46, go_sem, d0, d1, d2]) rfl (gaveVQ_no HF.out (grown_three HG6.out (by omega) _ _ _))
          | true =>
            rw [hr5] at HR5
            have HF := Lib.hid (show chV ⟨s, t, o⟩ k V ok = (⟨s5, t5, o5⟩, true) by rw [HGRR.out]; exact fine_yes hr5)
            clear hr5
            go_wp2_with fail
            refine HR5.out.mono ?_
            rintro e w5 ⟨rfl, hg⟩
            have HG6 := Lib.hid (grown_join HG3.out hg (.inr (by simp)))
            have HVI5 := Lib.hid (show Box w5 b 34 _ from HVI.out.box.grown hg (by simp))
            have HO5 := Lib.hid (HVI.out.sh.grow hg)
            have HO6 := Lib.hid (HVI.out.st.grow hg)
            obtain ⟨q0, q1, q2, f0, f1, f2, d0, d1, d2⟩ := (HY3.out.grown hg (by simp)).three8 (.slice A5 n5 c5) (.slice A6 n6 c6) (.int .i64 o5)
            clear hg z0 z1 z2
            obtain ⟨z0, z1, z2, _, _, _⟩ := box_three_cells HVI5.out
            have HLW := Lib.hid (show w.heap.size + 1 < w2.heap.size by have := HSZ.out; have := HS2.out; omega)
            go_wp2_with fail
            exact bodyPost_ret (v := .tuple #[.agg #[.slice A5 n5 c5, .slice A6 n6 c6, .int .i64 o5], .bool true]) (by simp [results, Try.results46, go_sem, d0, d1, d2]) rfl (by rw [HF.out]; exact ⟨_, _, _, _, _, _, rfl, (own_three HO5.out HLW.out _ _ _).lower (by have := HLW.out; omega), (own_three HO6.out HLW.out _ _ _).lower (by have := HLW.out; omega), grown_three HG6.out (by omega) _ _ _⟩)
end Go.Proofs.Ytdjenakmdjiknaa
end

/-! Layer 8, the program's own: changed with none, one and two changes; what the answers are, plain; run. -/
section
namespace Go.Proofs.Ytdjenakmdjiknaa
open Go.ChangeShapes Go.WideShapes Go.ChangeAt Go.RowKit
set_option linter.unusedVariables false
set_option maxRecDepth 100000

def chR (v : Vw) (ok : Bool) (v' : Vw) : Vw × Bool := if (rightV v && ok) = true then fineV v' else (zeroV, false)
theorem own8_changed0 (A A' : Option Addr) (n c n' c' : Nat) (s t : List Int) (o : Int) (w : World) (h : NumsF w A n c s) (h' : NumsF w A' n' c' t) (hn : n ≤ 1048576) (hn' : n' ≤ 1048576) :
    Calls Try.prog 46 #[.agg #[.slice A n c, .slice A' n' c', .int .i64 o], .slice none 0 0] w (GaveVQ (fineV ⟨s, t, o⟩) w) := by
  have H := own8_changed A A' n c n' c' s t o none 0 0 (fun _ => 0) (fun _ => #[]) (fun _ => ⟨s, t, o⟩) (fun _ => true) w h h' hn hn' (fun k hk => by omega) (by omega) rfl (fun _ => ⟨fun k hk => by omega, fun k hk => by omega⟩) (fun _ _ => ⟨by show s.length ≤ _; rw [h.len]; exact hn, by show t.length ≤ _; rw [h'.len]; exact hn'⟩)
  have e : chV ⟨s, t, o⟩ 0 (fun _ => ⟨s, t, o⟩) (fun _ => true) = fineV ⟨s, t, o⟩ := by
    have hc : chB 0 (fun _ => true) = true := decide_eq_true fun k hk => by omega
    unfold chV
    rw [hc, Bool.and_true]
    cases hr : rightV ⟨s, t, o⟩ with
    | true => exact if_pos rfl
    | false => rw [fine_no hr]; exact if_neg (by simp)
  rw [e] at H
  exact H
theorem own8_changed1 (A A' : Option Addr) (n c n' c' : Nat) (s t : List Int) (o : Int) (g d : Nat) (f : FuncId) (cap : Array Value) (v1 : Vw) (ok : Bool) (W : World) (h : NumsF W A n c s) (h' : NumsF W A' n' c' t) (hn : n ≤ 1048576) (hn' : n' ≤ 1048576)
    (hg : Box W g 75 #[.func (.func f) #[] cap]) (p0 : PlainF f) (d0 : rightV ⟨s, t, o⟩ = true → Does W f cap ⟨s, t, o⟩ v1 ok) (hl : rightV ⟨s, t, o⟩ = true → ok = true → v1.sh.length ≤ 1048576 ∧ v1.st.length ≤ 1048576) :
    Calls Try.prog 46 #[.agg #[.slice A n c, .slice A' n' c', .int .i64 o], .slice (some ⟨g, 0, none⟩) 1 d] W (GaveVQ (chR ⟨s, t, o⟩ ok v1) W) := by
  have H := own8_changed A A' n c n' c' s t o (some ⟨g, 0, none⟩) 1 d (fun _ => f) (fun _ => cap) (fun k => if k = 0 then ⟨s, t, o⟩ else v1) (fun _ => ok) W h h' hn hn' (fun k hk => ⟨g, rfl, hg.small, by
    obtain rfl : k = 0 := by omega
    rw [hg.get]; rfl⟩) (by omega) rfl (fun hr => ⟨fun _ _ => p0, fun k hk _ => by
    obtain rfl : k = 0 := by omega
    exact d0 hr⟩) (fun hr hk => hl hr (hk 0 (by omega)))
  have e : chV ⟨s, t, o⟩ 1 (fun k => if k = 0 then ⟨s, t, o⟩ else v1) (fun _ => ok) = chR ⟨s, t, o⟩ ok v1 := by
    have hc : chB 1 (fun _ => ok) = ok := by
      cases ok with
      | true => exact decide_eq_true fun _ _ => rfl
      | false => exact decide_eq_false fun h => by have := h 0 (by omega); cases this
    unfold chV chR
    rw [hc]
    rfl
  rw [e] at H
  exact H
theorem own8_changed2 (A A' : Option Addr) (n c n' c' : Nat) (s t : List Int) (o : Int) (g d : Nat) (f f' : FuncId) (cap cap' : Array Value) (v1 v2 : Vw) (ok : Bool) (W : World) (h : NumsF W A n c s) (h' : NumsF W A' n' c' t) (hn : n ≤ 1048576) (hn' : n' ≤ 1048576)
    (hg : Box W g 75 #[.func (.func f) #[] cap, .func (.func f') #[] cap']) (p0 : PlainF f) (p1 : PlainF f') (d0 : rightV ⟨s, t, o⟩ = true → Does W f cap ⟨s, t, o⟩ v1 true) (d1 : rightV ⟨s, t, o⟩ = true → Does W f' cap' v1 v2 ok) (hl : rightV ⟨s, t, o⟩ = true → ok = true → v2.sh.length ≤ 1048576 ∧ v2.st.length ≤ 1048576) :
    Calls Try.prog 46 #[.agg #[.slice A n c, .slice A' n' c', .int .i64 o], .slice (some ⟨g, 0, none⟩) 2 d] W (GaveVQ (chR ⟨s, t, o⟩ ok v2) W) := by
  have H := own8_changed A A' n c n' c' s t o (some ⟨g, 0, none⟩) 2 d (fun k => if k = 0 then f else f') (fun k => if k = 0 then cap else cap') (fun k => if k = 0 then ⟨s, t, o⟩ else if k = 1 then v1 else v2) (fun k => if k = 0 then true else ok) W h h' hn hn' (fun k hk => ⟨g, rfl, hg.small, by
    have hk2 : k = 0 ∨ k = 1 := by omega
    rcases hk2 with rfl | rfl <;> (rw [hg.get]; rfl)⟩) (by omega) rfl (fun hr => ⟨fun k hk => by
      show PlainF (if k = 0 then f else f')
      split
      · exact p0
      · exact p1, fun k hk _ => by
    have hk2 : k = 0 ∨ k = 1 := by omega
    rcases hk2 with rfl | rfl
    · exact d0 hr
    · exact d1 hr⟩) (fun hr hk => hl hr (hk 1 (by omega)))
  have e : chV ⟨s, t, o⟩ 2 (fun k => if k = 0 then ⟨s, t, o⟩ else if k = 1 then v1 else v2) (fun k => if k = 0 then true else ok) = chR ⟨s, t, o⟩ ok v2 := by
    have hc : chB 2 (fun k => if k = 0 then true else ok) = ok := by
      cases ok with
      | true => exact decide_eq_true fun k _ => by show (if k = 0 then true else true) = true; split <;> rfl
      | false => exact decide_eq_false fun h => by have := h 1 (by omega); cases this
    unfold chV chR
    rw [hc]
    rfl
  rw [e] at H
  exact H
theorem GaveVQ.from {p : Vw × Bool} {w w1 w' : World} {e : Ending} (h : GaveVQ p w e w') (hg : w1.grownBy w none) : GaveVQ p w1 e w' := by
  obtain ⟨A, n, c, A', n', c', e1, h1, h2, h3⟩ := h
  exact ⟨A, n, c, A', n', c', e1, h1.lower hg.size, h2.lower hg.size, grown_join hg h3 (.inr (by simp))⟩
/-! ### what the answers are -/
theorem new_fine (s : List Int) : newV s = fineV ⟨s, stridesL s, 0⟩ := by
  unfold newV
  cases hb : strB s with
  | true => exact if_pos rfl
  | false =>
    rw [fine_no (rightV_not (v := ⟨s, stridesL s, 0⟩) fun hp => ?_)]
    · exact if_neg (by simp)
    · have h1 : (stridesL s).length = s.length := hp.2.1
      have h2 : stridesL s = [] := by unfold stridesL; rw [if_neg (by rw [hb]; simp)]
      rw [h2] at h1
      have h3 : s = [] := List.eq_nil_of_length_eq_zero h1.symm
      subst h3
      have h4 : strB [] = true := by decide
      rw [h4] at hb
      cases hb
def runB (l f N p : Int) : Bool := decide (N = 0 ∨ (1 ≤ N ∧ N ≤ 1048576 ∧ 0 ≤ f ∧ f < l ∧ 0 ≤ f + (N - 1) * p ∧ f + (N - 1) * p < l))
theorem set_far {v : Vw} {k : Nat} {N Z o : Int} (hk : k < v.st.length) (h : ¬ (-1048576 ≤ Z ∧ Z ≤ 1048576)) : rightV (setV v k N Z o) = false := rightV_not fun hp => h (by
  have := hp.2.2.2.2 k (by simp [setV]; exact hk)
  simp [setV, List.getD, hk] at this
  exact this)
theorem slice_no_axis {v : Vw} {i f N p : Int} (h : axisB v i = false) : sliceV v i f N p = (zeroV, false) := by
  unfold sliceV sliceB
  rw [h]
  exact if_neg (by simp)
theorem slice_no_far {v : Vw} {i f N p : Int} (h : farB p = true) : sliceV v i f N p = (zeroV, false) := by
  unfold sliceV sliceB
  unfold farB at h
  rw [decide_eq_true_eq] at h
  refine if_neg fun hh => ?_
  simp only [Bool.and_eq_true, Bool.or_eq_true, decide_eq_true_eq] at hh
  omega
theorem slice_no_run {v : Vw} {i f N p : Int} (h : runB (v.sh.getD i.toNat 0) f N p = false) : sliceV v i f N p = (zeroV, false) := by
  unfold runB at h
  rw [decide_eq_false_iff_not] at h
  unfold sliceV sliceB
  refine if_neg fun hh => h ?_
  simp only [Bool.and_eq_true, Bool.or_eq_true, decide_eq_true_eq] at hh
  obtain ⟨⟨⟨h1, h2⟩, h3⟩, h4⟩ := hh
  rcases h3 with h3 | h3
  · exact .inl h3
  · by_cases h0 : N = 0
    · exact .inl h0
    · exact .inr ⟨by omega, h2.2, h3.1, h3.2.1, h3.2.2.2.2.1, h3.2.2.2.2.2⟩
theorem slice_go {v : Vw} {k : Nat} {f N p : Int} (ha : axisB v (k : Int) = true) (hf : farB p = false) (h : runB (v.sh.getD k 0) f N p = true) :
    sliceV v (k : Int) f N p = fineV (setV v k N (p * v.st.getD k 0) (if N = 0 then v.off else v.off + f * v.st.getD k 0)) := by
  unfold runB at h
  rw [decide_eq_true_eq] at h
  unfold farB at hf
  rw [decide_eq_false_iff_not] at hf
  have hax := axis_all ha
  by_cases hz : -1048576 ≤ p * v.st.getD k 0 ∧ p * v.st.getD k 0 ≤ 1048576
  · unfold sliceV
    refine if_pos ?_
    unfold sliceB
    simp only [Bool.and_eq_true, Bool.or_eq_true, decide_eq_true_eq, Int.toNat_natCast]
    refine ⟨⟨⟨ha, by omega⟩, ?_⟩, by omega⟩
    rcases h with h | h
    · exact .inl h
    · exact .inr ⟨h.2.2.1, h.2.2.2.1, by omega, by omega, h.2.2.2.2.1, h.2.2.2.2.2⟩
  · have hst : v.st.length = v.sh.length := (rightV_all hax.1).2.1
    rw [fine_no (set_far (by omega) hz)]
    unfold sliceV
    refine if_neg fun hh => hz ?_
    unfold sliceB at hh
    simp only [Bool.and_eq_true, Bool.or_eq_true, decide_eq_true_eq, Int.toNat_natCast] at hh
    exact ⟨hh.2.2.2.1, hh.2.2.2.2⟩
theorem flip_slice {v : Vw} {k : Nat} (ha : axisB v (k : Int) = true) : flipV v (k : Int) = sliceV v (k : Int) (v.sh.getD k 0 - 1) (v.sh.getD k 0) (-1) := by
  have hax := axis_all ha
  have hl := rightV_len hax.1 (i := k) (by omega)
  have hf : farB (-1) = false := by decide
  have hr : runB (v.sh.getD k 0) (v.sh.getD k 0 - 1) (v.sh.getD k 0) (-1) = true := by
    unfold runB
    rw [decide_eq_true_eq]
    by_cases h0 : v.sh.getD k 0 = 0
    · exact .inl h0
    · exact .inr ⟨by omega, by omega, by omega, by omega, by omega, by omega⟩
  rw [slice_go ha hf hr]
  unfold flipV
  rw [if_pos ha]
  simp only [Int.toNat_natCast]
  rw [show (-1) * v.st.getD k 0 = -v.st.getD k 0 by omega]
  by_cases h0 : v.sh.getD k 0 = 0
  · rw [if_pos h0, if_neg (by omega)]
  · rw [if_neg h0, if_pos (by omega)]
theorem flip_any (v : Vw) (i : Int) : flipV v i = sliceV v i (axN v i - 1) (axN v i) (-1) := by
  cases ha : axisB v i with
  | false =>
    rw [slice_no_axis ha]
    unfold flipV
    rw [ha]
    exact if_neg (by simp)
  | true =>
    have hax := axis_all ha
    obtain ⟨k, rfl⟩ : ∃ k : Nat, i = (k : Int) := ⟨i.toNat, by omega⟩
    rw [flip_slice ha, (axis_at hax.1 (k := k) (by omega)).1]
theorem perm_ch (v : Vw) (q : List Int) : permV v q = chR v (permB v.sh q) ⟨permL v.sh q, q.map (fun a => v.st.getD a.toNat 0), v.off⟩ := rfl
theorem drop_no {v : Vw} {i x : Int} (h : (axisB v i && decide (0 ≤ x ∧ x < v.sh.getD i.toNat 0)) = false) : dropV v i x = (zeroV, false) := by unfold dropV; rw [h]; exact if_neg (by simp)
theorem drop_go {v : Vw} {k : Nat} {x : Int} (ha : axisB v (k : Int) = true) (hx : 0 ≤ x ∧ x < v.sh.getD k 0) : dropV v (k : Int) x = chR v (withoutB v.sh (k : Int)) ⟨withoutL v.sh (k : Int), v.st.take k ++ v.st.drop (k + 1), v.off + x * v.st.getD k 0⟩ := by
  have hax := axis_all ha
  have hw : withoutB v.sh (k : Int) = true := by
    unfold withoutB
    rw [(full_all (rightV_all hax.1).1).1, Bool.true_and]
    exact decide_eq_true ⟨hax.2.1, hax.2.2⟩
  unfold dropV chR
  rw [ha, hax.1, hw]
  simp only [Int.toNat_natCast, Bool.true_and, decide_eq_true_eq, Bool.and_self]
  rw [if_pos hx, if_pos trivial]
theorem grow_ch (v : Vw) (i n : Int) : growV v i n = chR v (withB v.sh i n) ⟨withL v.sh i n, putL v.st i.toNat 0, v.off⟩ := rfl
theorem window_no {v : Vw} {i x : Int} (h : (axisB v i && decide (1 ≤ x ∧ x ≤ v.sh.getD i.toNat 0)) = false) : windowV v i x = (zeroV, false) := by unfold windowV; rw [h]; exact if_neg (by simp)
theorem set_own8 {l : List Int} {k : Nat} : l.set k (l.getD k 0) = l := by
  by_cases h : k < l.length
  · apply List.ext_getElem (by simp)
    intro i h1 h2
    rw [List.getElem_set]
    split
    · rename_i e; subst e; simp [List.getD, h]
    · rfl
  · exact List.set_eq_of_length_le (by omega)
theorem window_go {v : Vw} {k : Nat} {x : Int} (ha : axisB v (k : Int) = true) (hx : 1 ≤ x ∧ x ≤ v.sh.getD k 0) :
    windowV v (k : Int) x = chR v (withB (v.sh.set k (v.sh.getD k 0 - x + 1)) ((k : Int) + 1) x) ⟨withL (v.sh.set k (v.sh.getD k 0 - x + 1)) ((k : Int) + 1) x, putL (v.st.set k (v.st.getD k 0)) (k + 1) (v.st.getD k 0), v.off⟩ := by
  have hax := axis_all ha
  have hk : k < v.sh.length := by omega
  have hl := rightV_len hax.1 hk
  have hrs := (full_all (rightV_all hax.1).1).1
  have hrs2 : rightS (v.sh.set k (v.sh.getD k 0 - x + 1)) = true := by
    refine (right_by (b := true) (fun i hi => ?_) (decide_eq_true (by rw [List.length_set]; exact (right_all hrs).2)).symm).symm
    rw [List.length_set] at hi
    have h1 := right_at hrs hi
    by_cases e : k = i
    · subst e; simp [List.getD, hi]; simp [List.getD, hi] at hl hx; omega
    · simp [List.getD, List.getElem?_set_ne e]; simp [List.getD] at h1; exact h1
  have hwb : withB (v.sh.set k (v.sh.getD k 0 - x + 1)) ((k : Int) + 1) x = withB v.sh ((k : Int) + 1) x := by
    unfold withB
    rw [hrs, hrs2, List.length_set]
  have hwl : withB v.sh ((k : Int) + 1) x = true → withL (v.sh.set k (v.sh.getD k 0 - x + 1)) ((k : Int) + 1) x = (withL v.sh ((k : Int) + 1) x).set k (v.sh.getD k 0 - x + 1) := fun hb => by
    unfold withL
    rw [hwb, if_pos hb, if_pos hb]
    rw [show ((k : Int) + 1).toNat = k + 1 by omega, List.take_set, List.drop_set_of_lt (by omega), List.append_assoc, List.append_assoc, List.set_append_left _ _ (by rw [List.length_take]; omega)]
  unfold windowV chR
  rw [ha, hax.1, hwb, set_own8]
  simp only [Int.toNat_natCast, Bool.true_and]
  cases hb : withB v.sh ((k : Int) + 1) x with
  | true =>
    rw [hwl hb]
    simp only [Bool.and_true, decide_eq_true_eq]
    rw [if_pos hx, if_pos trivial]
  | false =>
    simp only [Bool.and_false]
    rfl
theorem reshape_no {v : Vw} {s : List Int} (h : ((newV s).2 && denseB v && decide (cellsV (newV s).1 = cellsV v)) = false) : shapeV v s = (zeroV, false) := by
  unfold shapeV
  refine if_neg fun hh => ?_
  simp only [Bool.and_eq_true, decide_eq_true_eq] at hh
  obtain ⟨⟨⟨h1, h2⟩, h3⟩, h4⟩ := hh
  have h5 : (newV s).1.sh = s := by
    rw [new_fine] at h4 ⊢
    unfold fineV at h4 ⊢
    split
    · rfl
    · rename_i hh; rw [if_neg hh] at h4; cases h4
  have h6 : cellsV (newV s).1 = cellsV v := by
    have : cellsV (newV s).1 = sizeV (newV s).1.sh 1048576 := rfl
    rw [this, h5]; exact h3
  rw [h4, h1, decide_eq_true h6] at h
  cases h
theorem reshape_go {v : Vw} {s : List Int} (h1 : (newV s).2 = true) (h2 : denseB v = true) (h3 : cellsV (newV s).1 = cellsV v) : shapeV v s = chR (newV s).1 true ⟨(newV s).1.sh, (newV s).1.st, (newV s).1.off + v.off⟩ := by
  have h4 := h1
  rw [new_fine] at h4
  have hr : rightV ⟨s, stridesL s, 0⟩ = true := by
    unfold fineV at h4
    split at h4
    · assumption
    · cases h4
  have h5 : (newV s).1 = ⟨s, stridesL s, 0⟩ := by rw [new_fine, fine_yes hr]
  unfold shapeV chR
  rw [h2, h1, h5, hr]
  have h6 : sizeV s 1048576 = cellsV v := by rw [h5] at h3; exact h3
  have h7 : full s = true := (rightV_all hr).1
  rw [h7, decide_eq_true h6]
  show _ = if _ then fineV ⟨s, stridesL s, 0 + v.off⟩ else _
  rw [Int.zero_add]
  rfl
end Go.Proofs.Ytdjenakmdjiknaa
end
end

/-! Layer 8, the program's own: New, Permute. -/
section
namespace Go.Proofs.Ytdjenakmdjiknaa
open Go.ChangeShapes Go.WideShapes Go.ChangeAt Go.RowKit
set_option linter.unusedVariables false
set_option maxRecDepth 100000

theorem cells_three8 {w : World} {b : Nat} {t : TypeId} {x y z : Value} (h : Box w b t #[x, y, z]) : w.cell? ⟨b, 0, none⟩ = some x ∧ w.cell? ⟨b, 1, none⟩ = some y ∧ w.cell? ⟨b, 2, none⟩ = some z :=
  ⟨by rw [h.get]; rfl, by rw [h.get]; rfl, by rw [h.get]; rfl⟩
theorem tail8 {p : Vw × Bool} {w w8 : World} {A8 B8 : Option Addr} {n8 c8 m8 d8 B r : Nat} (h8 : OwnI w8 B A8 n8 c8 p.1.sh) (h8' : OwnI w8 B B8 m8 d8 p.1.st) (hr : r < B) (hw : w.heap.size ≤ r) (hg : w.grownBy w8 none) :
    GaveVQ p w (.returned (.tuple #[.agg #[.slice A8 n8 c8, .slice B8 m8 d8, .int .i64 p.1.off], .bool p.2])) (((w8.setCell ⟨r, 0, none⟩ (.slice A8 n8 c8)).setCell ⟨r, 1, none⟩ (.slice B8 m8 d8)).setCell ⟨r, 2, none⟩ (.int .i64 p.1.off)) :=
  ⟨_, _, _, _, _, _, rfl, (own_three h8 hr _ _ _).lower (by omega), (own_three h8' hr _ _ _).lower (by omega), grown_three hg hw _ _ _⟩
theorem GaveVQ.vp {p : Vw × Bool} {w w' : World} {e : Ending} (h : GaveVQ p w e w') : GaveVP p w e w' := by
  obtain ⟨A, n, c, A', n', c', e1, h1, h2, h3⟩ := h
  exact ⟨A, n, c, A', n', c', e1, h1.numsF, h2.numsF, h3⟩
theorem right_lens {s t : List Int} {o : Int} (h : rightV ⟨s, t, o⟩ = true) : t.length = s.length ∧ s.length ≤ 6 := ⟨(rightV_all h).2.1, rightV_dims h⟩
set_option maxHeartbeats 2000000 in
theorem own8_new (A : Option Addr) (n c : Nat) (s : List Int) (w : World) (h : NumsF w A n c s) (hn : n ≤ 1048576) : Calls Try.prog 25 #[.slice A n c] w (GaveVQ (newV s) w) := by
  rw [new_fine]
  have HS := Lib.hid (fun w' (hg : w.grownBy w' none) => own7_strides A n c s w' (h.1.grow hg) hn)
  have HCH := Lib.hid (fun w' A2 c2 b (hg : w.grownBy w' none) (ho : OwnI w' b A2 (stridesL s).length c2 (stridesL s)) => own8_changed0 A A2 n c (stridesL s).length c2 s (stridesL s) 0 w' (h.grow hg) ho.numsF hn (by have h1 := strides_len s; rw [h.len] at h1; omega))
  generalize fineV ⟨s, stridesL s, 0⟩ = p at *
  obtain ⟨w1, hw1⟩ : ∃ w1, w1 = w.alloc (.cells #[.slice none 0 0, .slice none 0 0, .int .i64 0] 34) := ⟨_, rfl⟩
  have hb := box8 w 34 #[.slice none 0 0, .slice none 0 0, .int .i64 0]
  rw [← hw1] at hb
  obtain ⟨hy, hg1⟩ := hb
  have HY := Lib.hid hy
  have HG1 := Lib.hid hg1
  have HW1 := Lib.hid hw1
  have HSZ := Lib.hid (show w.heap.size < w1.heap.size from hy.small)
  clear hw1 hy hg1 h
  go_enter Try.func25, Try.ntmps25
  go_upto_region 1 with fail
  rw [← HW1.out]
  go_wp2_with fail
  refine (HS.out _ HG1.out).mono ?_
  rintro e w2 ⟨A2, c2, rfl, ho, hg⟩
  have HO := Lib.hid ho
  have HG12 := Lib.hid hg
  have HG2 := Lib.hid (grown_join HG1.out hg (.inr (by simp)))
  clear ho hg
  go_wp2_with fail
  refine (HCH.out _ A2 c2 _ HG2.out HO.out).mono ?_
  rintro e w8 ⟨A8, n8, c8, B8, m8, d8, rfl, h8, h8', hg8⟩
  obtain ⟨q0, q1, q2, g0, g1, g2, d0, d1, d2⟩ := (HY.out.grown (grown_join HG12.out hg8 (.inr (by simp))) (by simp)).three8 (.slice A8 n8 c8) (.slice B8 m8 d8) (.int .i64 p.1.off)
  have HFIN := Lib.hid (tail8 (p := p) (w := w) (r := w.heap.size) h8 h8' (by have h1 := HSZ.out; have h2 := HG12.out.size; omega) (Nat.le_refl _) (grown_join HG2.out hg8 (.inr (by simp))))
  clear h8 h8' hg8
  go_wp2_with fail
  exact bodyPost_ret (v := .tuple #[.agg #[.slice A8 n8 c8, .slice B8 m8 d8, .int .i64 p.1.off], .bool p.2]) (by simp [results, Try.results25, go_sem, d0, d1, d2]) rfl HFIN.out
set_option maxHeartbeats 4000000 in
theorem own8_permute (A A' : Option Addr) (n c n' c' : Nat) (s t : List Int) (o : Int) (D : Option Addr) (m d : Nat) (q : List Int) (w : World) (h : NumsF w A n c s) (h' : NumsF w A' n' c' t) (hn : n ≤ 1048576) (hn' : n' ≤ 1048576) (h0 : NumsF w D m d q) (hm : m ≤ 1048576) :
    Calls Try.prog 26 #[.agg #[.slice A n c, .slice A' n' c', .int .i64 o], .slice D m d] w (GaveVQ (permV ⟨s, t, o⟩ q) w) := by
  obtain ⟨p, hp⟩ : ∃ p, permV ⟨s, t, o⟩ q = p := ⟨_, rfl⟩
  rw [hp]
  have HCH : Hid (∀ w4 p1, w.grownBy w4 none → Box w4 p1 22 #[.slice D m d] → Calls Try.prog 46 #[.agg #[.slice A n c, .slice A' n' c', .int .i64 o], .slice (some ⟨w4.heap.size, 0, none⟩) 1 1] (w4.alloc (.cells #[.func (.func 60) #[] #[.pointer (some ⟨p1, 0, none⟩)]] 75)) (GaveVQ p (w4.alloc (.cells #[.func (.func 60) #[] #[.pointer (some ⟨p1, 0, none⟩)]] 75)))) := Lib.hid fun w4 p1 hg h1 => by
    have hg2 := grown_alloc hg (.cells #[.func (.func 60) #[] #[.pointer (some ⟨p1, 0, none⟩)]] 75)
    rw [← hp, perm_ch]
    exact own8_changed1 A A' n c n' c' s t o w4.heap.size 1 _ _ ⟨permL s q, q.map (fun a => t.getD a.toNat 0), o⟩ (permB s q) _ (h.grow hg2) (h'.grow hg2) hn hn' (Box.fresh _ _ _) plain_turned (fun hr => does_turned (h1.alloc _) (h0.grow hg2) hm (right_lens hr).1 (right_lens hr).2) (fun hr _ => ⟨by have h1 := (right_lens hr).2; have h2 := h0.len; show (permL s q).length ≤ _; unfold permL; split <;> (simp <;> omega), by have h2 := h0.len; show (q.map _).length ≤ _; rw [List.length_map]; omega⟩)
  obtain ⟨w1, hw1⟩ : ∃ w1, w1 = (w.alloc (.cells #[.slice A n c, .slice A' n' c', .int .i64 o] 34)).alloc (.cells #[.slice none 0 0, .slice none 0 0, .int .i64 0] 34) := ⟨_, rfl⟩
  have hb := boxes8 w 34 #[.slice A n c, .slice A' n' c', .int .i64 o] #[.slice none 0 0, .slice none 0 0, .int .i64 0]
  rw [← hw1] at hb
  obtain ⟨hx, hy, hg1⟩ := hb
  have HX := Lib.hid hx
  have HY := Lib.hid hy
  have HG1 := Lib.hid hg1
  have HW1 := Lib.hid hw1
  have HSZ := Lib.hid (show w.heap.size + 1 < w1.heap.size from hy.small)
  clear hw1 hx hy hg1
  have HC := Lib.hid (fun w' (hg : w1.grownBy w' none) => cells_three8 (HX.out.grown hg (by simp)))
  go_enter Try.func26, Try.ntmps26
  go_upto_region 1 with fail
  rw [← HW1.out]
  obtain ⟨x0, x1, x2⟩ := cells_three8 HX.out
  go_region_held3 (fun w' => w'.cell? ⟨w.heap.size, 0, none⟩ = some (.slice A n c) ∧ w'.cell? ⟨w.heap.size, 1, none⟩ = some (.slice A' n' c') ∧ w'.cell? ⟨w.heap.size, 2, none⟩ = some (.int .i64 o)) (first | exact KEEP9.out | exact HC.out _ (by repeat (first | exact HG8.out | exact HG7.out | exact HG6.out | exact HGR.out | exact grown_refl _ _ | refine grown_drew ?_ | refine grown_drewN ?_ _ | refine grown_alloc ?_ _)) | go_keep) (first
    | (go_at_call 46; refine (HCH.out w6 p1 (grown_join HG1.out HG6.out (.inr (by simp))) HB1.out).mono ?_; rintro e w8 ⟨A8, n8, c8, B8, m8, d8, rfl, h8, h8', hg8⟩; have HG8 : Hid (w1.grownBy w8 none) := Lib.hid (grown_join (grown_alloc HG6.out _) hg8 (.inr (by simp))); obtain ⟨q0, q1, q2, g0, g1, g2, d0, d1, d2⟩ := (HY.out.grown HG8.out (by simp)).three8 (.slice A8 n8 c8) (.slice B8 m8 d8) (.int .i64 p.1.off); have KEEP9 := Lib.hid (cells_three8 (box_three (HX.out.grown HG8.out (by simp)) (g := w.heap.size + 1) (by omega) (.slice A8 n8 c8) (.slice B8 m8 d8) (.int .i64 p.1.off))); have HFIN := Lib.hid (tail8 (p := p) (w := w) (r := w.heap.size + 1) h8 h8' (by have h1 := HSZ.out; have h2 := (HG6.out).size; simp; omega) (by omega) (grown_join HG1.out HG8.out (.inr (by simp)))); clear h8 h8' hg8)
    | (go_at_call 47; refine (own8_turned _ _ _ _).mono ?_; rintro e w6 ⟨p1, rfl, hb1, hg6⟩; have HB1 := Lib.hid hb1; clear hb1; have HG6 : Hid (w1.grownBy w6 none) := Lib.hid (grown_join (by repeat (first | exact grown_refl _ _ | exact HGR.out | refine grown_drewN ?_ _ | refine grown_drew ?_ | refine grown_alloc ?_ _)) hg6 (.inr (by simp))); clear hg6))
  all_goals
    go_wp2_with fail
    exact bodyPost_ret (v := .tuple #[.agg #[.slice A8 n8 c8, .slice B8 m8 d8, .int .i64 p.1.off], .bool p.2]) (by simp [results, Try.results26, go_sem, d0, d1, d2]) rfl HFIN.out
end Go.Proofs.Ytdjenakmdjiknaa
end

/-! Layer 9: what is asked of the program's own view and odometer is so. -/
section
namespace Go.Proofs.Ytdjenakmdjiknaa
open Go.ChangeShapes Go.WideShapes Go.ChangeAt Go.RowKit Go.Shelf
set_option linter.unusedVariables false
set_option maxRecDepth 100000

theorem vsays9 : ViewSays9 where
  new := fun A n c s w h hn => (own8_new A n c s w h hn).mono fun e w' h => h.vp
  right := fun A n c A' n' c' v w h ho => own8_right A A' n c n' c' v.sh v.st v.off w h.1 h.2.1 h.2.2.1 h.2.2.2
  offset := fun A n c A' n' c' v B m d l w h ho h2 hm => own8_offset A A' B n c n' c' m d v.sh v.st l v.off w h.1 h.2.1 h2 h.2.2.1 h.2.2.2 hm
  permute := fun A n c A' n' c' v B m d q w h ho h2 hm _ => (own8_permute A A' n c n' c' v.sh v.st v.off B m d q w h.1 h.2.1 h.2.2.1 h.2.2.2 h2 hm).mono fun e w' h => h.vp
  place := fun A n c A' n' c' s t w h hn h' hn' => own7_place A A' n c n' c' s t w h h' hn hn'
theorem osays9 : OdoSays OdoT where
  keep := fun h hg => h.keep hg
  new := fun A n c A' n' c' v w h ho => own9_new A A' n c n' c' v.sh v.st v.off w h.1 h.2.1 h.2.2.1 h.2.2.2
  next := fun lo q v k on w h => own9_Next lo q v k on w h
  at_ := fun lo q v k on w h => own9_At lo q v k on w h
  left := fun lo q v k on w h => own9_left lo q v k on w h
  next0 := own9_next0
  at0 := own9_at0
  left0 := own9_left0
  collect := fun A n c A' n' c' v w h ho => own9_collect A A' n c n' c' v.sh v.st v.off w h.1 h.2.1 h.2.2.1 h.2.2.2
end Go.Proofs.Ytdjenakmdjiknaa
end

/-! A region that draws its order, by what holds between any two of its operations, whichever have come up so far (nothing of the program). -/
section
namespace Go.Proofs.Ytdjenakmdjiknaa
open Go.ChangeShapes Go.WideShapes Go.ChangeAt Go.RowKit
set_option linter.unusedVariables false

section
variable {P : Program} {md : Region.Mode} {ops : Array Oper} {Q : Exit → Act → World → Prop}
/-- each operation waits for earlier ones alone. -/
def backB (md : Region.Mode) (ops : Array Oper) : Bool := (List.range ops.size).all fun i => ((ops[i]?).map fun o => o.after.all fun e => !Region.binds md e || decide (e.on < i)).getD true
theorem back_of {i : Nat} {o : Oper} (hb : backB md ops = true) (ho : ops[i]? = some o) : ∀ e ∈ o.after, Region.binds md e = true → e.on < i := by
  intro e he hbd
  have h1 := List.all_eq_true.1 hb i (List.mem_range.2 (Array.getElem?_eq_some_iff.1 ho).1)
  rw [ho] at h1
  have h2 : (o.after.all fun e => !Region.binds md e || decide (e.on < i)) = true := h1
  have h3 := Array.all_eq_true_iff_forall_mem.1 h2 e he
  rw [hbd] at h3
  simpa using h3
theorem all_listed {listed : Array Bool} (hs : listed.size = ops.size) (hb : backB md ops = true) (h : Region.ready md ops listed = []) : ∀ i, i < ops.size → listed.getD i false = true := by
  intro i
  induction i using Nat.strongRecOn with
  | ind i ih =>
    intro hi
    cases hl : listed.getD i false with
    | true => rfl
    | false =>
      exfalso
      have ho : ops[i]? = some ops[i] := Array.getElem?_eq_getElem hi
      have hm : i ∈ Region.ready md ops listed := by
        refine mem_ready.2 ⟨?_, ops[i], ho, fun e he hbd => ih e.on (back_of hb ho e he hbd) (by have := back_of hb ho e he hbd; omega)⟩
        have hi' : i < listed.size := by omega
        simp only [Array.getD_eq_getD_getElem?, Array.getElem?_eq_getElem hi', Option.getD_some] at hl ⊢
        exact hl
      rw [h] at hm
      cases hm
theorem listed_set {listed : Array Bool} {i : Nat} (hi : i < listed.size) : (fun j => (listed.setIfInBounds i true).getD j false) = fun j => if j = i then true else listed.getD j false := by
  funext j
  by_cases e : j = i
  · subst e
    rw [if_pos rfl]
    simp [hi]
  · rw [if_neg e]
    exact getD_set_ne false (Ne.symm e)
theorem count_set {listed : Array Bool} {i fuel : Nat} (hi : listed.getD i true = false) (h : listed.toList.count false ≤ fuel + 1) : (listed.setIfInBounds i true).toList.count false ≤ fuel := by
  have hlt : i < listed.size := by
    rcases Nat.lt_or_ge i listed.size with h' | h'
    · exact h'
    · simp [Array.getElem?_eq_none h'] at hi
  have hg : listed.toList[i]'(by simpa using hlt) = false := by
    simp only [Array.getD_eq_getD_getElem?, Array.getElem?_eq_getElem hlt, Option.getD_some] at hi
    simpa using hi
  rw [Array.toList_setIfInBounds, List.count_set (by simpa using hlt), hg]
  have : 0 < listed.toList.count false := List.count_pos_iff.2 (by rw [← hg]; exact List.getElem_mem _)
  show List.count false listed.toList - 1 + 0 ≤ fuel
  omega
theorem any_inv (Inv : (Nat → Bool) → Act → World → Prop) (hb : backB md ops = true)
    (hstep : ∀ (f : Nat → Bool) (i : Nat) (o : Oper) (a : Act) (w : World), ops[i]? = some o → f i = false → (∀ e ∈ o.after, Region.binds md e = true → f e.on = true) → Inv f a w → Region.wanted o (yielded ops a.tmps) = true ∧ o.wp P a w (Inv fun j => if j = i then true else f j) Q)
    (hend : ∀ (f : Nat → Bool) (a : Act) (w : World), (∀ i, i < ops.size → f i = true) → Inv f a w → Q .normal a w) :
    ∀ (fuel : Nat) (listed : Array Bool) (a : Act) (w : World), listed.size = ops.size → listed.toList.count false ≤ fuel → Inv (fun j => listed.getD j false) a w → wpAny P md ops Q fuel listed a w
  | 0, listed, a, w, hs, hc, h => by
    have hall : ∀ i, i < ops.size → listed.getD i false = true := fun i hi => by
      have h1 : false ∉ listed.toList := List.count_eq_zero.1 (by omega)
      have hi' : i < listed.size := by omega
      simp only [Array.getD_eq_getD_getElem?, Array.getElem?_eq_getElem hi', Option.getD_some]
      cases hv : listed[i] with
      | true => rfl
      | false => exact absurd (by rw [← hv]; simp) h1
    refine ⟨List.eq_nil_iff_forall_not_mem.2 fun i hi => ?_, hend _ a w hall h⟩
    obtain ⟨h1, o, ho, _⟩ := mem_ready.1 hi
    have h2 := hall i (Array.getElem?_eq_some_iff.1 ho).1
    have hi' : i < listed.size := by have := (Array.getElem?_eq_some_iff.1 ho).1; omega
    simp only [Array.getD_eq_getD_getElem?, Array.getElem?_eq_getElem hi', Option.getD_some] at h1 h2
    rw [h1] at h2
    cases h2
  | fuel + 1, listed, a, w, hs, hc, h => by
    refine ⟨fun hr => hend _ a w (all_listed hs hb hr) h, fun i hi => ?_⟩
    obtain ⟨h1, o, ho, hall⟩ := mem_ready.1 hi
    have hi' : i < listed.size := by have := (Array.getElem?_eq_some_iff.1 ho).1; omega
    have h2 : listed.getD i false = false := by
      simp only [Array.getD_eq_getD_getElem?, Array.getElem?_eq_getElem hi', Option.getD_some] at h1 ⊢
      exact h1
    obtain ⟨hw, hwp⟩ := hstep _ i o a w ho h2 hall h
    unfold wpOp
    rw [ho]
    dsimp only
    rw [if_pos hw]
    refine .inl (Oper.wp_mono (fun a' w' h' => ?_) hwp)
    refine any_inv Inv hb hstep hend fuel _ a' w' (by simpa using hs) (count_set h1 hc) ?_
    rw [listed_set hi']
    exact h'
theorem region_inv {id : Nat} {a : Act} {w : World} (hm : P.follows .mixedOrders = true) (Inv : (Nat → Bool) → Act → World → Prop) (hb : backB .any ops = true)
    (hstep : ∀ (f : Nat → Bool) (i : Nat) (o : Oper) (a : Act) (w : World), ops[i]? = some o → f i = false → (∀ e ∈ o.after, Region.binds .any e = true → f e.on = true) → Inv f a w → Region.wanted o (yielded ops a.tmps) = true ∧ o.wp P a w (Inv fun j => if j = i then true else f j) Q)
    (hend : ∀ (f : Nat → Bool) (a : Act) (w : World), (∀ i, i < ops.size → f i = true) → Inv f a w → Q .normal a w) (h0 : Inv (fun _ => false) a w.drew) : (Code.region id ops true).wp P Q a w := by
  refine wp_region_any hm (any_inv Inv hb hstep hend _ _ _ _ (by simp) (by simp) ?_)
  have e : (fun j => (Array.replicate ops.size false).getD j false) = fun _ => false := by
    funext j
    rcases Nat.lt_or_ge j ops.size with h | h
    · simp [h]
    · have h2 : ¬ j < ops.size := by omega
      simp [h2]
  rw [e]
  exact h0
end
end Go.Proofs.Ytdjenakmdjiknaa
end
