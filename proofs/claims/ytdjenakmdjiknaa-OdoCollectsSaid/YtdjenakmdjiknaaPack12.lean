/-
  Texts of this claim, one behind the other.
-/
import Derived.Laws.EntriesVeiled
import Derived.Deep.DeepCutAuto
import Derived.Deep.RegionHeld3
import Derived.Lib.AppendZeros
import Derived.BigQuiet
import Derived.Test.YtdjenakmdjiknaaPack1
import Derived.Test.YtdjenakmdjiknaaPack2
import Derived.Test.YtdjenakmdjiknaaPack3
import Derived.Test.YtdjenakmdjiknaaPack4
import Derived.Test.YtdjenakmdjiknaaPack5
import Derived.Test.YtdjenakmdjiknaaPack6
import Derived.Test.YtdjenakmdjiknaaPack7
import Derived.Test.YtdjenakmdjiknaaPack8
import Derived.Test.YtdjenakmdjiknaaPack9
import Derived.Test.YtdjenakmdjiknaaPack10
import Derived.Test.YtdjenakmdjiknaaPack11

/-! Layer 9, the program's own: Pairs. -/
section
namespace Go.Proofs.Ytdjenakmdjiknaa
open Go.ChangeShapes Go.WideShapes Go.ChangeAt Go.RowKit Go.Shelf
set_option linter.unusedVariables false
set_option maxRecDepth 100000
attribute [local go_sem] Oper.semAt_some

/-! ### slices.Equal of two shapes -/
theorem same_lists {s t : List Int} (hl : s.length = t.length) (h : ∀ i, i < s.length → s.getD i 0 = t.getD i 0) : s = t := ints_eqW hl h
set_option maxHeartbeats 2000000 in
theorem own9_equal (A B : Option Addr) (n c m d : Nat) (s t : List Int) (w : World) (h : NumsF w A n c s) (k : NumsF w B m d t) (hn : n ≤ 1048576) (hm : m ≤ 1048576) :
    Calls Try.prog 42 #[.slice A n c, .slice B m d] w (TellG (.bool (decide (s = t))) w) := by
  have HL := Lib.hid (And.intro h.len k.len)
  have HS := Lib.hid (fun w' (hg : w.grownBy w' none) => (h.grow hg).1)
  have HT := Lib.hid (fun w' (hg : w.grownBy w' none) => (k.grow hg).1)
  clear h k
  by_cases hnm : n = m
  · subst hnm
    have d0 : ((n : Int) != (n : Int)) = false := by simp
    have d1 : ((n : Int) == (n : Int)) = true := by simp
    go_enter Try.func42, Try.ntmps42
    go_wp2_with fail
    go_loopw [13] (fun i wr => ∃ j : Nat, j ≤ n ∧ i = .int .i64 j ∧ (∀ x, x < j → s.getD x 0 = t.getD x 0) ∧ w.grownBy wr none) (fun i _ => n - (intOf i).toNat)
    case atStart => exact ⟨0, by omega, rfl, fun x hx => by omega, grown_refl _ _⟩
    case round =>
      obtain ⟨j, hj, rfl, hq, hg⟩ := hrel
      have HG := Lib.hid hg
      have HQ := Lib.hid hq
      by_cases hlt : j < n
      · obtain ⟨b, off, e1, _, c1⟩ := (HS.out wr hg).2.at_ hlt
        obtain ⟨b', off', e2, _, c2⟩ := (HT.out wr hg).2.at_ hlt
        subst e1
        subst e2
        have HNX := Lib.hid (show s.getD j 0 = t.getD j 0 → ∀ x, x < j + 1 → s.getD x 0 = t.getD x 0 from fun e x hx => by
          by_cases e2 : x = j
          · subst e2; exact e
          · exact hq x (by omega))
        have HNE := Lib.hid (show s.getD j 0 ≠ t.getD j 0 → decide (s = t) = false from fun e => decide_eq_false fun e2 => e (by rw [e2]))
        clear hg hq
        generalize s.getD j 0 = y at *
        generalize t.getD j 0 = z at *
        by_cases hyz : y = z
        · have d2 : (y != z) = false := by simp [hyz]
          have d3 : (y == z) = true := by simp [hyz]
          have HY := Lib.hid hyz
          clear hyz
          go_wp2_with fail
          go_quiet (fail)
          go_wp2_with fail
          go_roundw
          case rel => exact ⟨j + 1, by omega, by go_num, HNX.out HY.out, grown_drewN HG.out _⟩
          case measure => simp [intOf]; omega
        · have d2 : (y != z) = true := by simp [hyz]
          have d3 : (y == z) = false := by simp [hyz]
          have HY := Lib.hid (HNE.out hyz)
          clear hyz
          go_wp2_with fail
          go_quiet (fail)
          go_wp2_with fail
          go_ret
          exact ⟨congrArg (fun b => Ending.returned (.bool b)) HY.out.symm, grown_drewN HG.out _⟩
      · obtain rfl : j = n := by omega
        clear hg hq
        go_wp2_with fail
        go_ret
        exact ⟨congrArg (fun b => Ending.returned (.bool b)) (decide_eq_true (same_lists (by rw [HL.out.1, HL.out.2]) (by rw [HL.out.1]; exact HQ.out))).symm, HG.out⟩
  · have d0 : ((n : Int) != (m : Int)) = true := by simp; omega
    have d1 : ((n : Int) == (m : Int)) = false := by simp; omega
    have HE := Lib.hid (show decide (s = t) = false from decide_eq_false fun e => hnm (by rw [← HL.out.1, ← HL.out.2, e]))
    clear hnm
    go_enter Try.func42, Try.ntmps42
    go_wp2_with fail
    go_ret
    exact ⟨congrArg (fun b => Ending.returned (.bool b)) HE.out.symm, grown_refl _ _⟩
/-! ### Pairs -/
theorem plain_pairs1 (args : Array Value) (W : World) : (callFunc 43 args).run Try.prog W = .ok (.enter 43 args) W := enters_of Try.func43 (by kernel_rfl) rfl args W
theorem pairs1_own (n : Nat) (X : Nat → Prop) (W0 : World) : SeqOwns n 43 #[] enc2 (KeepX X) (fun ys => ys = []) (fun pre => ∃ k, k ≤ ([] : List (Int × Int)).length ∧ pre = ([] : List (Int × Int)).take k) ([] : List (Int × Int)).length W0 := by
  intro l J Jx W hW hJ hJx hY h0
  refine callsIn_of_wp Try.func43 rfl trivial ?_ rfl
  simp only [Try.ntmps43, List.size_toArray, List.length_cons, List.length_nil, Nat.reduceAdd, Nat.reduceSub, Array.replicate_succ, Array.replicate_zero, List.push_toArray, List.append_toArray, List.nil_append, List.cons_append]
  gi_wp2
  go_end0
  exact ⟨⟨_, rfl⟩, .inl h0⟩
theorem pairs1_is {w w' : World} {v u : Vw} {Away : Nat → Prop} (h : pairsL v u = []) (hg : w.grownBy w' none) : SeqIs enc2 (pairsL v u) Away w (.returned (.func (.func 43) #[] #[])) w' := by
  rw [h]
  exact ⟨hg, _, _, rfl, plain_pairs1, fun n W X hn hW hX => pairs1_own n X W⟩
theorem pairs_no {v u : Vw} {a b c : Bool} (ha : rightV v = a) (hb : rightV u = b) (hc : decide (v.sh = u.sh) = c) (h : (a && b && c) = false) : pairsL v u = [] := by
  unfold pairsL
  rw [ha, hb, hc, h]
  rfl
/-- what Pairs' other function has caught: the walk ahead of the second view's cells, and the places of the first one. -/
def Caught (v u : Vw) (w : World) (x y : Value) (w' : World) : Prop := ∃ b5 b6 b z5 z6, x = .pointer (some ⟨b6, 0, none⟩) ∧ y = .pointer (some ⟨b5, 0, none⟩) ∧ Box w' b5 52 #[.func (.func 45) #[] #[.pointer (some ⟨b, 0, none⟩)]] ∧
  WalkB w' b6 62 [] z6 ∧ WalkB w' b 62 [] z5 ∧ WalkOf z5 v 0 false ∧ WalkOf z6 u 0 false ∧ w.heap.size ≤ b5 ∧ w.heap.size ≤ b6 ∧ w.heap.size ≤ b ∧ w.grownBy w' none
/-- what holds in the region that makes both, whichever of its operations have come up. -/
def PairsInv (w4 : World) (FR : Value → Value → Value → Value → Value → Value → Act) (vA vB : Value) (v u : Vw) (f : Nat → Bool) (a : Act) (w : World) : Prop :=
  w4.grownBy w none ∧ ∃ u5 u6 u23 u24 u25 u26 b b5 b6 z5 z6 z cs, a = FR u5 u6 u23 u24 u25 u26 ∧
  (f 0 = true → u23 = vA) ∧ (f 2 = true → u25 = vB) ∧
  (f 1 = true → u24 = .func (.func 45) #[] #[.pointer (some ⟨b, 0, none⟩)] ∧ w4.heap.size ≤ b ∧ WalkB w b 62 [] z5 ∧ WalkOf z5 v 0 false) ∧
  (f 3 = true → u26 = .agg (walkL z6).toArray ∧ WalkOf z6 u 0 false) ∧
  (f 4 = true → u5 = .pointer (some ⟨b5, 0, none⟩) ∧ w4.heap.size ≤ b5 ∧ Box w b5 52 #[cs] ∧ (f 6 = true → cs = u24)) ∧
  (f 5 = true → u6 = .pointer (some ⟨b6, 0, none⟩) ∧ w4.heap.size ≤ b6 ∧ WalkB w b6 62 [] z ∧ (f 7 = true → z = z6)) ∧
  (f 1 = true → f 5 = true → b ≠ b6) ∧ (f 6 = true → f 4 = true ∧ f 1 = true) ∧ (f 7 = true → f 5 = true ∧ f 3 = true)
theorem eight {i : Nat} (h : i < 8) : i = 0 ∨ i = 1 ∨ i = 2 ∨ i = 3 ∨ i = 4 ∨ i = 5 ∨ i = 6 ∨ i = 7 := by omega
set_option maxHeartbeats 8000000 in
theorem own9_pairsF (A A' B B' : Option Addr) (n c n' c' m d m' d' : Nat) (s t su tu : List Int) (o ou : Int) (w : World) (h : NumsF w A n c s) (h' : NumsF w A' n' c' t) (hn : n ≤ 1048576) (hn' : n' ≤ 1048576) (k : NumsF w B m d su) (k' : NumsF w B' m' d' tu) (hm : m ≤ 1048576) (hm' : m' ≤ 1048576) :
    Calls Try.prog 23 #[.agg #[.slice A n c, .slice A' n' c', .int .i64 o], .agg #[.slice B m d, .slice B' m' d', .int .i64 ou]] w fun e w' =>
      (rightV ⟨s, t, o⟩ && rightV ⟨su, tu, ou⟩ && decide (s = su)) = false ∧ e = .returned (.func (.func 43) #[] #[]) ∧ w.grownBy w' none ∨
      (rightV ⟨s, t, o⟩ && rightV ⟨su, tu, ou⟩ && decide (s = su)) = true ∧ ∃ x y, e = .returned (.func (.func 44) #[] #[x, y]) ∧ Caught ⟨s, t, o⟩ ⟨su, tu, ou⟩ w x y w' := by
  have HRA := Lib.hid (fun w' (hg : w.grownBy w' none) => own8_right A A' n c n' c' s t o w' (h.grow hg) (h'.grow hg) hn hn')
  have HRB := Lib.hid (fun w' (hg : w.grownBy w' none) => own8_right B B' m d m' d' su tu ou w' (k.grow hg) (k'.grow hg) hm hm')
  have HEQ := Lib.hid (fun w' (hg : w.grownBy w' none) => own9_equal A B n c m d s su w' (h.grow hg) (k.grow hg) hn hm)
  have HOF := Lib.hid (fun w' (hg : w.grownBy w' none) => own9_offsets A A' n c n' c' s t o w' (h.grow hg) (h'.grow hg) hn hn')
  have HBG := Lib.hid (fun w' (hg : w.grownBy w' none) => own9_begin B B' m d m' d' su tu ou w' (k.grow hg) (k'.grow hg) hm hm')
  clear h h' k k'
  generalize rightV ⟨s, t, o⟩ = ra at *
  generalize rightV ⟨su, tu, ou⟩ = rb at *
  generalize decide (s = su) = eq at *
  obtain ⟨w1, hw1⟩ : ∃ w1, w1 = (w.alloc (.cells #[.slice A n c, .slice A' n' c', .int .i64 o] 34)).alloc (.cells #[.slice B m d, .slice B' m' d', .int .i64 ou] 34) := ⟨_, rfl⟩
  obtain ⟨hx, hy, hg1⟩ := boxes9 w 34 34 #[.slice A n c, .slice A' n' c', .int .i64 o] #[.slice B m d, .slice B' m' d', .int .i64 ou]
  rw [← hw1] at hx hy hg1
  have HX := Lib.hid hx
  have HY := Lib.hid hy
  have HG1 := Lib.hid hg1
  have HW1 := Lib.hid hw1
  clear hx hy hg1 hw1
  cases ra with
  | false =>
    go_enter Try.func23, Try.ntmps23
    go_upto_region 1 with fail
    rw [← HW1.out]
    have x0 := HX.out.get 0
    have x1 := HX.out.get 1
    have x2 := HX.out.get 2
    go_wp2_with fail
    refine (HRA.out _ HG1.out).mono ?_
    rintro e w2 ⟨rfl, hg⟩
    have HG2 := Lib.hid (grown_join HG1.out hg (.inr (by simp)))
    clear hg x0 x1 x2
    go_wp2_with fail
    go_ret
    exact .inl ⟨rfl, rfl, HG2.out⟩
  | true =>
  cases rb with
  | false =>
    go_enter Try.func23, Try.ntmps23
    go_upto_region 1 with fail
    rw [← HW1.out]
    have x0 := HX.out.get 0
    have x1 := HX.out.get 1
    have x2 := HX.out.get 2
    go_wp2_with fail
    refine (HRA.out _ HG1.out).mono ?_
    rintro e w2 ⟨rfl, hg⟩
    have HG2 := Lib.hid (grown_join HG1.out hg (.inr (by simp)))
    have HY2 := Lib.hid (HY.out.grown hg (by simp))
    clear hg x0 x1 x2
    have y0 := HY2.out.get 0
    have y1 := HY2.out.get 1
    have y2 := HY2.out.get 2
    go_wp2_with fail
    refine (HRB.out _ HG2.out).mono ?_
    rintro e w3 ⟨rfl, hg⟩
    have HG3 := Lib.hid (grown_join HG2.out hg (.inr (by simp)))
    clear hg y0 y1 y2
    go_wp2_with fail
    go_ret
    exact .inl ⟨rfl, rfl, HG3.out⟩
  | true =>
    go_enter Try.func23, Try.ntmps23
    go_upto_region 1 with fail
    rw [← HW1.out]
    have x0 := HX.out.get 0
    have x1 := HX.out.get 1
    have x2 := HX.out.get 2
    go_wp2_with fail
    refine (HRA.out _ HG1.out).mono ?_
    rintro e w2 ⟨rfl, hg⟩
    have HG2 := Lib.hid (grown_join HG1.out hg (.inr (by simp)))
    have HX2 := Lib.hid (HX.out.grown hg (by simp))
    have HY2 := Lib.hid (HY.out.grown hg (by simp))
    clear hg x0 x1 x2
    have y0 := HY2.out.get 0
    have y1 := HY2.out.get 1
    have y2 := HY2.out.get 2
    go_wp2_with fail
    refine (HRB.out _ HG2.out).mono ?_
    rintro e w3 ⟨rfl, hg⟩
    have HG3 := Lib.hid (grown_join HG2.out hg (.inr (by simp)))
    have HX3 := Lib.hid (HX2.out.grown hg (by simp))
    have HY3 := Lib.hid (HY2.out.grown hg (by simp))
    clear hg y0 y1 y2
    have x0 := HX3.out.get 0
    have y0 := HY3.out.get 0
    go_wp2_with fail
    refine (HEQ.out _ HG3.out).mono ?_
    rintro e w4 ⟨rfl, hg⟩
    have HG4 := Lib.hid (grown_join HG3.out hg (.inr (by simp)))
    have HX4 := Lib.hid (HX3.out.grown hg (by simp))
    have HY4 := Lib.hid (HY3.out.grown hg (by simp))
    clear hg x0 y0
    cases eq with
    | false =>
      go_wp2_with fail
      go_ret
      exact .inl ⟨rfl, rfl, HG4.out⟩
    | true =>
      go_wp2_with fail
      refine region_inv (by kernel_rfl) (PairsInv w4 (fun u5 u6 u23 u24 u25 u26 => { tmps := #[.agg #[.slice A n c, .slice A' n' c', .int .i64 o], .agg #[.slice B m d, .slice B' m' d', .int .i64 ou], .pointer (some ⟨w.heap.size, 0, none⟩), .pointer (some ⟨w.heap.size + 1, 0, none⟩), .nilFunc, u5, u6, .agg #[.slice A n c, .slice A' n' c', .int .i64 o], .bool true, .bool false, .bool false, .agg #[.slice B m d, .slice B' m' d', .int .i64 ou], .bool true, .bool false, .bool false, .bool false, .pointer (some ⟨w.heap.size, 0, none⟩), .slice A n c, .pointer (some ⟨w.heap.size + 1, 0, none⟩), .slice B m d, .bool true, .bool false, .bool false, u23, u24, u25, u26, undef], defers := [] }) (.agg #[.slice A n c, .slice A' n' c', .int .i64 o]) (.agg #[.slice B m d, .slice B' m' d', .int .i64 ou]) ⟨s, t, o⟩ ⟨su, tu, ou⟩) (by kernel_rfl) ?step ?fin ?start
      case start =>
        exact ⟨grown_drew (grown_refl _ _), undef, undef, undef, undef, undef, undef, 0, 0, 0, zeroW, zeroW, zeroW, undef, rfl, (fun h => by cases h), (fun h => by cases h), (fun h => by cases h), (fun h => by cases h), (fun h => by cases h), (fun h => by cases h), (fun h => by cases h), (fun h => by cases h), fun h => by cases h⟩
      case fin =>
        intro f a wi hall hinv
        obtain ⟨hg, u5, u6, u23, u24, u25, u26, b, b5, b6, z5, z6, z, cs, rfl, h0, h2, h1, h3, h4, h5, hne, h6, h7⟩ := hinv
        obtain ⟨e24, hb, hB, hZ5⟩ := h1 (hall 1 (by simp))
        obtain ⟨e26, hZ6⟩ := h3 (hall 3 (by simp))
        obtain ⟨e5, hb5, hB5, ecs⟩ := h4 (hall 4 (by simp))
        obtain ⟨e6, hb6, hB6, ez⟩ := h5 (hall 5 (by simp))
        have ecs := ecs (hall 6 (by simp))
        have ez := ez (hall 7 (by simp))
        subst e24
        subst e26
        subst e5
        subst e6
        subst ecs
        subst ez
        have hgs := HG4.out.size
        have HFIN := Lib.hid (show Caught ⟨s, t, o⟩ ⟨su, tu, ou⟩ w (.pointer (some ⟨b6, 0, none⟩)) (.pointer (some ⟨b5, 0, none⟩)) wi from ⟨b5, b6, b, z5, z, rfl, rfl, hB5, hB6, hB, hZ5, hZ6, by omega, by omega, by omega, grown_join HG4.out hg (.inr (by simp))⟩)
        clear hall h0 h2 h1 h3 h4 h5 hne h6 h7 hb hB hZ5 hZ6 hb5 hB5 hb6 hB6 hgs hg
        go_wp2_with fail
        go_ret
        exact ⟨_, _, rfl, HFIN.out⟩
      case step =>
        intro f i op a wi hop hf hall hinv
        obtain ⟨hg, u5, u6, u23, u24, u25, u26, b, b5, b6, z5, z6, z, cs, rfl, h0, h2, h1, h3, h4, h5, hne, h6, h7⟩ := hinv
        have hi : i < 8 := (Array.getElem?_eq_some_iff.1 hop).1
        have hX := HX4.out.grown hg (by simp)
        have hY := HY4.out.grown hg (by simp)
        have HGI := Lib.hid hg
        have H0 := Lib.hid h0
        have H1 := Lib.hid h1
        have H2 := Lib.hid h2
        have H3 := Lib.hid h3
        have H4 := Lib.hid h4
        have H5 := Lib.hid h5
        have H6 := Lib.hid h6
        have H7 := Lib.hid h7
        have HNE := Lib.hid hne
        have HF := Lib.hid hf
        have HHX := Lib.hid hX
        have HHY := Lib.hid hY
        have HGW := Lib.hid (grown_join HG4.out hg (.inr (by simp)))
        clear hf hX hY hg h0 h2 h1 h3 h4 h5 hne h6 h7
        rcases eight hi with rfl | rfl | rfl | rfl | rfl | rfl | rfl | rfl <;> obtain rfl := Option.some.inj hop <;> refine ⟨by simp [Region.wanted], ?_⟩ <;> clear hop hi
        · have x0 := HHX.out.get 0
          have x1 := HHX.out.get 1
          have x2 := HHX.out.get 2
          clear hall
          go_simp
          exact ⟨HGI.out, u5, u6, _, u24, u25, u26, b, b5, b6, z5, z6, z, cs, rfl, fun _ => rfl, fun h => H2.out h, fun h => H1.out h, fun h => H3.out h, fun h => H4.out h, fun h => H5.out h, fun h k => HNE.out h k, fun h => H6.out h, fun h => H7.out h⟩
        · have e0 := H0.out (hall ⟨0, .data⟩ (by simp) rfl)
          subst e0
          clear hall
          go_simp
          refine (HOF.out wi HGW.out).mono ?_
          rintro e w' ⟨b', z', rfl, hb', hB', hZ', hg'⟩
          go_simp
          exact ⟨grown_join HGI.out hg' (.inr (by simp)), u5, u6, _, _, u25, u26, b', b5, b6, z', z6, z, cs, rfl, fun _ => rfl, fun h => H2.out h, fun _ => ⟨rfl, Nat.le_trans HGI.out.size hb', hB', hZ'⟩, fun h => H3.out h, fun h => ⟨(H4.out h).1, (H4.out h).2.1, (H4.out h).2.2.1.grown hg' (by simp), fun h6 => absurd (H6.out h6).2 (by rw [HF.out]; simp)⟩, fun h => ⟨(H5.out h).1, (H5.out h).2.1, (H5.out h).2.2.1.grown hg' (by simp), fun h7 => (H5.out h).2.2.2 h7⟩,
            (fun _ k => by have := Box.small (H5.out k).2.2.1; omega), fun h => ⟨(H6.out h).1, rfl⟩, fun h => H7.out h⟩
        · have x0 := HHY.out.get 0
          have x1 := HHY.out.get 1
          have x2 := HHY.out.get 2
          clear hall
          go_simp
          exact ⟨HGI.out, u5, u6, u23, u24, _, u26, b, b5, b6, z5, z6, z, cs, rfl, fun h => H0.out h, fun _ => rfl, fun h => H1.out h, fun h => H3.out h, fun h => H4.out h, fun h => H5.out h, fun h k => HNE.out h k, fun h => H6.out h, fun h => H7.out h⟩
        · have e0 := H2.out (hall ⟨2, .data⟩ (by simp) rfl)
          subst e0
          clear hall
          go_simp
          refine (HBG.out wi HGW.out).mono ?_
          rintro e w' ⟨⟨z', rfl, hz'⟩, hg'⟩
          go_simp
          exact ⟨grown_join HGI.out hg' (.inr (by simp)), u5, u6, u23, u24, _, _, b, b5, b6, z5, z', z, cs, rfl, fun h => H0.out h, fun _ => rfl, fun h => ⟨(H1.out h).1, (H1.out h).2.1, (H1.out h).2.2.1.grown hg' (by simp), (H1.out h).2.2.2⟩, fun _ => ⟨rfl, hz'⟩, fun h => ⟨(H4.out h).1, (H4.out h).2.1, (H4.out h).2.2.1.grown hg' (by simp), (H4.out h).2.2.2⟩, fun h => ⟨(H5.out h).1, (H5.out h).2.1, (H5.out h).2.2.1.grown hg' (by simp), fun h7 => absurd (H7.out h7).2 (by rw [HF.out]; simp)⟩,
            fun h k => HNE.out h k, fun h => H6.out h, fun h => ⟨(H7.out h).1, rfl⟩⟩
        · clear hall
          go_simp
          have hg' := World.grownBy_alloc wi (.cells #[.nilFunc] 52) none
          exact ⟨grown_alloc HGI.out _, _, u6, u23, u24, u25, u26, b, wi.heap.size, b6, z5, z6, z, _, rfl, fun h => H0.out h, fun h => H2.out h, fun h => ⟨(H1.out h).1, (H1.out h).2.1, (H1.out h).2.2.1.grown hg' (by simp), (H1.out h).2.2.2⟩, fun h => H3.out h, fun _ => ⟨rfl, HGI.out.size, Box.fresh _ _ _, fun h6 => absurd (H6.out h6).1 (by rw [HF.out]; simp)⟩, fun h => ⟨(H5.out h).1, (H5.out h).2.1, (H5.out h).2.2.1.grown hg' (by simp), (H5.out h).2.2.2⟩, fun h k => HNE.out h k, fun h => ⟨rfl, (H6.out h).2⟩, fun h => H7.out h⟩
        · clear hall
          go_simp
          have hg' := World.grownBy_alloc wi (.cells (walkL zeroW).toArray 62) none
          exact ⟨grown_alloc HGI.out (.cells (walkL zeroW).toArray 62), u5, _, u23, u24, u25, u26, b, b5, wi.heap.size, z5, z6, zeroW, cs, rfl, fun h => H0.out h, fun h => H2.out h, fun h => ⟨(H1.out h).1, (H1.out h).2.1, (H1.out h).2.2.1.grown hg' (by simp), (H1.out h).2.2.2⟩, fun h => H3.out h, fun h => ⟨(H4.out h).1, (H4.out h).2.1, (H4.out h).2.2.1.grown hg' (by simp), (H4.out h).2.2.2⟩, fun _ => ⟨rfl, HGI.out.size, fresh_walk wi, fun h7 => absurd (H7.out h7).1 (by rw [HF.out]; simp)⟩,
            (fun k _ => by have := Box.small (H1.out k).2.2.1; omega), fun h => H6.out h, fun h => ⟨rfl, (H7.out h).2⟩⟩
        · have f4 := hall ⟨4, .data⟩ (by simp) rfl
          have f1 := hall ⟨1, .data⟩ (by simp) rfl
          obtain ⟨e5, hb5, hB5, _⟩ := H4.out f4
          obtain ⟨e24, _, hBb, _⟩ := H1.out f1
          subst e5
          subst e24
          have HB5 := Lib.hid hB5
          have HBB := Lib.hid hBb
          have HL5 := Lib.hid hb5
          have HFL := Lib.hid (And.intro f4 f1)
          have x0 := hB5.get 0
          have x1 := hB5.free 0
          clear hall f4 f1 hB5 hBb hb5
          go_simp
          have hg' : wi.grownBy (wi.setCell ⟨b5, 0, none⟩ (.func (.func 45) #[] #[.pointer (some ⟨b, 0, none⟩)])) (some b5) := grown_put (grown_refl _ _) (.inl rfl) _
          exact ⟨grown_put HGI.out (.inr HL5.out) _, _, u6, u23, _, u25, u26, b, b5, b6, z5, z6, z, _, rfl, fun h => H0.out h, fun h => H2.out h, fun h => ⟨rfl, (H1.out h).2.1, HBB.out.grown hg' (fun e => Box.apart HBB.out HB5.out (by decide) (Option.some.inj e)), (H1.out h).2.2.2⟩, fun h => H3.out h, fun _ => ⟨rfl, HL5.out, HB5.out.put 0 _, fun _ => rfl⟩, fun h => ⟨(H5.out h).1, (H5.out h).2.1, (H5.out h).2.2.1.grown hg' (fun e => Box.apart (H5.out h).2.2.1 HB5.out (by decide) (Option.some.inj e)), (H5.out h).2.2.2⟩,
            fun h k => HNE.out h k, fun _ => HFL.out, fun h => H7.out h⟩
        · have f5 := hall ⟨5, .data⟩ (by simp) rfl
          have f3 := hall ⟨3, .data⟩ (by simp) rfl
          obtain ⟨e6, hb6, hB6, _⟩ := H5.out f5
          obtain ⟨e26, _⟩ := H3.out f3
          subst e6
          subst e26
          refine wp_store_mid 62 _ _ rfl b6 0 (walkL z6).toArray rfl rfl (hB6.there rfl) walk_info (all_oneCell_toArray (walkL_one z6)) ?_
          obtain ⟨hB7, hg'⟩ := hB6.whole (o := 0) rfl z6
          exact ⟨grown_join HGI.out hg' (.inr fun x e => by injection e with e; subst e; exact hb6), u5, _, u23, u24, u25, _, b, b5, b6, z5, z6, z6, cs, rfl, fun h => H0.out h, fun h => H2.out h, fun h => ⟨(H1.out h).1, (H1.out h).2.1, (H1.out h).2.2.1.grown hg' (fun e => HNE.out h f5 (Option.some.inj e)), (H1.out h).2.2.2⟩, fun h => ⟨rfl, (H3.out f3).2⟩, fun h => ⟨(H4.out h).1, (H4.out h).2.1, (H4.out h).2.2.1.grown hg' (fun e => Box.apart hB6 (H4.out h).2.2.1 (by decide) (Option.some.inj e).symm), (H4.out h).2.2.2⟩, fun _ => ⟨rfl, hb6, hB7, fun _ => rfl⟩,
            fun h k => HNE.out h k, fun h => H6.out h, fun _ => ⟨f5, f3⟩⟩
end Go.Proofs.Ytdjenakmdjiknaa
end

/-! Layer 9, the program's own: the function that Pairs hands back. -/
section
namespace Go.Proofs.Ytdjenakmdjiknaa
open Go.ChangeShapes Go.WideShapes Go.ChangeAt Go.RowKit Go.Shelf
set_option linter.unusedVariables false
set_option maxRecDepth 100000
attribute [local go_sem] Oper.semAt_some

/-- a round of an outer range, taken in the round of an inner one. -/
theorem round_wide {m m' l l2 : Nat} {f : FuncId} {tmps : Array Value} {assign body : Code} {w : World} {R : Ending → World → Prop} (h : RoundIn Fence.wide m Try.prog l f tmps assign body w R) : RoundIn (Fence.wide.inRound l2) m' Try.prog l f tmps assign body w R :=
  ⟨h.1, fun c cs _ => h.2 c cs (room_wide _)⟩
theorem own_cells_walk {w : World} {b : Nat} {t : TypeId} {s : WalkS} (h : WalkB w b t [] s) : w.heap[b]? = some (.cells (walkL s).toArray t (0, 0)) := h
theorem keepX_more {X Y : Nat → Prop} {A B : World} (h : KeepX X A B) (hXY : ∀ x, X x → Y x) : KeepX Y A B := ⟨h.1, fun x o hx hn ho => h.2 x o hx (fun e => hn (hXY x e)) ho⟩
theorem zip_next {m : List Int} {pre : List Int} {x : Int} (h : pre.length < m.length) : pre.zip (m.take pre.length) ++ [(x, m.getD pre.length 0)] = (pre ++ [x]).zip (m.take (pre ++ [x]).length) := by
  rw [List.length_append, List.length_singleton, ← take_next h, List.zip_append (by rw [List.length_take]; omega)]
  rfl
theorem zip_whole {l m : List Int} (h : l.length = m.length) : l.zip (m.take l.length) = l.zip m := by rw [List.take_of_length_le (by omega)]
theorem zip_part {l m : List Int} (k : Nat) (hk : k ≤ l.length) (h : l.length = m.length) : (l.take k).zip (m.take (l.take k).length) = (l.zip m).take k := by
  rw [List.length_take, Nat.min_eq_left hk]
  exact List.take_zipWith.symm
set_option maxHeartbeats 4000000 in
theorem own9_pairs2 (n : Nat) (hn : 6 ≤ n) (l b b5 b6 : Nat) (z5 z6 : WalkS) (v u : Vw) (X : Nat → Prop) (J Jx : List (Int × Int) → World → Prop) (W : World) (hJ : OwnAll W.heap.size J) (hJx : OwnAll W.heap.size Jx)
    (hY : ∀ pre x W1, J pre W1 → True → pre.length < ((colL v).zip (colL u)).length → YieldAt Fence.wide (n - 1) Try.prog l (enc2 x) W1 fun e W' => (e = .returned (.bool true) ∧ J (pre ++ [x]) W' ∧ KeepX X W1 W' ∧ KeepsFrom W.heap.size W1 W') ∨ (e = .returned (.bool false) ∧ Jx (pre ++ [x]) W' ∧ KeepsFrom W.heap.size W1 W'))
    (hB5 : Box W b5 52 #[.func (.func 45) #[] #[.pointer (some ⟨b, 0, none⟩)]]) (hB6 : WalkB W b6 62 [] z6) (hB : WalkB W b 62 [] z5) (hZ5 : WalkOf z5 v 0 false) (hZ6 : WalkOf z6 u 0 false) (hlen : (colL v).length = (colL u).length) (hX : ∀ x, X x → x < W.heap.size) (h0 : J [] W) :
    CallsIn Fence.wide n Try.prog 44 #[.func (.yield l) #[] #[], .pointer (some ⟨b6, 0, none⟩), .pointer (some ⟨b5, 0, none⟩)] W fun e W' => (∃ x, e = .returned x) ∧
      ((∃ xs, xs = (colL v).zip (colL u) ∧ J xs W') ∨ ∃ pre, (∃ k, k ≤ ((colL v).zip (colL u)).length ∧ pre = ((colL v).zip (colL u)).take k) ∧ Jx pre W') := by
  have HJ := Lib.hid hJ
  have HJX := Lib.hid hJx
  have HY := Lib.hid hY
  have HZ5 := Lib.hid hZ5
  have HZ6 := Lib.hid hZ6
  have HLEN := Lib.hid hlen
  have HX := Lib.hid hX
  have HN := Lib.hid hn
  obtain ⟨w1, hw1⟩ : ∃ w1, w1 = W.alloc (.cells #[.func (.yield l) #[] #[]] 72) := ⟨_, rfl⟩
  have HG1 := Lib.hid (show W.grownBy w1 none by rw [hw1]; exact World.grownBy_alloc _ _ _)
  have HB31 := Lib.hid (show Box w1 W.heap.size 72 #[.func (.yield l) #[] #[]] by rw [hw1]; exact Box.fresh _ _ _)
  have HB61 := Lib.hid (hB6.grown HG1.out (by simp))
  have HB51 := Lib.hid (hB5.grown HG1.out (by simp))
  have HB1 := Lib.hid (hB.grown HG1.out (by simp))
  have HS1 := Lib.hid (show w1.heap.size = W.heap.size + 1 by rw [hw1]; simp)
  have HF1 := Lib.hid (fresh_walk w1)
  have HW1 := Lib.hid hw1
  have HNX := Lib.hid (fun (w3 : World) (s : WalkS) (k : Nat) (on : Bool) (hb : WalkB w3 w1.heap.size 62 [] s) (hs : WalkOf s u k on) => own9_next w1.heap.size 0 62 [] s u k on w3 rfl hb hs)
  clear hJ hJx hY hB5 hB6 hB hZ5 hZ6 hlen hX hw1
  refine callsIn_of_wp_marks Try.func44 rfl trivial ?_ rfl
  simp only [Try.ntmps44, List.size_toArray, List.length_cons, List.length_nil, Nat.reduceAdd, Nat.reduceSub, Array.replicate_succ, Array.replicate_zero, List.push_toArray, List.append_toArray, List.nil_append, List.cons_append]
  refine wpIn_wide.2 ?_
  go_upto_region 1 with fail
  rw [← HW1.out]
  go_upto_region 2 with (first
    | (refine load_walk rfl _ rfl rfl HB61.out rfl ?_)
    | (refine store_walk rfl _ _ rfl z6 rfl rfl HF1.out rfl ?_; intro w3 HB43 HG13))
  have hga := World.grownBy_alloc w1 (.cells (walkL zeroW).toArray 62) none
  have HG3 := Lib.hid (show w1.grownBy w3 none from grown_join hga HG13.out (.inr fun x e => by injection e with e; omega))
  have HG03 := Lib.hid (grown_join HG1.out HG3.out (.inr (by simp)))
  have HB53 := Lib.hid (HB51.out.grown HG3.out (by simp))
  have HB33 := Lib.hid (HB31.out.grown HG3.out (by simp))
  have HBB3 := Lib.hid (HB1.out.grown HG3.out (by simp))
  have HJ3 := Lib.hid (HJ.out [] W w3 none h0 HG03.out (fun r e => by cases e))
  have HSZ := Lib.hid (show w1.heap.size < w3.heap.size from Box.small HB43.out)
  have HXL : Hid (∀ x, (X x ∨ x = w1.heap.size) → x < w3.heap.size) := Lib.hid (by
    have h1 := HSZ.out
    have h2 := HS1.out
    rintro x (hx | rfl)
    · have := HX.out x hx
      omega
    · exact h1)
  have x0 := HB53.out.get 0
  clear hga h0
  go_wp2_with fail
  clear x0
  refine (wpIn_wide (n := n)).1 ?_
  refine range_told (by omega) (gf := 45) (lb := #[.pointer (some ⟨b, 0, none⟩)]) rfl plain_off (offsets_own (n - 1) (by have := HN.out; omega) b z5 v (fun x => X x ∨ x = w1.heap.size) w3 HBB3.out HZ5.out HXL.out) (fun h1 h2 => keepX_t h1 h2) (fun W l o o' h1 h2 h3 h4 => keepX_b W l o o' h1 h2 h3 h4) (fun _ _ _ _ _ _ _ _ => trivial) (fun _ => rfl)
    (fun pre W' => J (pre.zip ((colL u).take pre.length)) W' ∧ Box W' W.heap.size 72 #[.func (.yield l) #[] #[]] ∧ ∃ s on, WalkB W' w1.heap.size 62 [] s ∧ WalkOf s u pre.length on)
    (fun c pre W' => c = .ret ∧ Jx (pre.zip ((colL u).take pre.length)) W')
    (fun pre Wa Wb row hs hg hr => ⟨HJ.out _ Wa Wb row hs.1 hg (fun r e => ⟨by have := (hr r e).1; have := HSZ.out; have := HS1.out; omega, trivial⟩), hs.2.1.grown hg (fun e => by have := (hr _ e.symm).1; have := HSZ.out; have := HS1.out; omega), by
      obtain ⟨s, on, h1, h2⟩ := hs.2.2
      exact ⟨s, on, h1.grown hg (fun e => by have := (hr _ e.symm).1; have := HSZ.out; omega), h2⟩⟩)
    (fun c pre Wa Wb row hs hg hr => ⟨hs.1, HJX.out _ Wa Wb row hs.2 hg (fun r e => ⟨by have := (hr r e).1; have := HSZ.out; have := HS1.out; omega, trivial⟩)⟩) ⟨HJ3.out, HB33.out, z6, false, HB43.out, HZ6.out⟩
    (fun x => { tmps := #[.func (.yield l) #[] #[], .pointer (some ⟨b6, 0, none⟩), .pointer (some ⟨b5, 0, none⟩), .pointer (some ⟨W.heap.size, 0, none⟩), .pointer (some ⟨w1.heap.size, 0, none⟩), .int .i64 x, undef, undef, .agg (walkL z6).toArray, .func (.func 45) #[] #[.pointer (some ⟨b, 0, none⟩)], .int .i64 x, undef, undef, undef, undef, undef, undef, undef, undef, undef], defers := [] }) ?assign ?body ?done ?stop
  case assign =>
    intro l2 x W2 K hK
    dsimp only [enc1]
    gi_wp2
    exact hK
  case body =>
    rintro l2 pre x W2 ⟨hj, hbx, s, on, hb, hs⟩ _ hlt
    have hku : pre.length < (colL u).length := by rw [← HLEN.out]; exact hlt
    have HJ2 := Lib.hid hj
    have HBX := Lib.hid hbx
    have HLT := Lib.hid (And.intro hlt hku)
    have HNN : Hid (Calls Try.prog 39 #[.pointer (some ⟨w1.heap.size, 0, none⟩)] W2 fun e w' => e = .returned (.tuple #[.int .i64 ((colL u).getD pre.length 0), .bool true]) ∧ W2.grownBy w' (some w1.heap.size) ∧ ∃ s', WalkB w' w1.heap.size 62 [] s' ∧ WalkOf s' u (pre.length + 1) true) := Lib.hid ((HNX.out W2 s pre.length on hb hs).mono fun e w' h => by
      rcases h.2 with ⟨_, h1, h2⟩ | ⟨h1, _⟩
      · exact ⟨h1, h.1, h2⟩
      · exact absurd hku h1)
    have HZN := Lib.hid (zip_next (x := x) hku)
    have HCR := Lib.hid (own_cells_walk hb)
    have hf1 : Fence.wide.fn 39 := trivial
    have hn2 : 1 ≤ n - 1 - 1 := by have := HN.out; omega
    generalize (colL u).getD pre.length 0 = y at *
    clear hj hbx hb hs hlt hku
    gi_wp2_with (gi_at_call 39; refine (CallsIn.inRound l2 (callsIn_wide.2 HNN.out)).mono ?_; rintro e w4 ⟨rfl, hg4, s', hb4, hs4⟩; have HG4 := Lib.hid hg4; have HB44 := Lib.hid hb4; have HS4 := Lib.hid hs4; have HBX4 := Lib.hid (HBX.out.grown hg4 (fun e => by have h1 := Option.some.inj e; have := HS1.out; omega)); have x1 := HBX4.out.get 0; obtain ⟨fn, tmps, assign, body, hy, hR⟩ := HY.out _ (x, y) w4 (HJ.out _ _ w4 (some w1.heap.size) HJ2.out hg4 (fun r e => ⟨by injection e with e; have := HS1.out; omega, trivial⟩)) trivial (by have h1 := HLT.out; rw [List.length_zip, List.length_zip, List.length_take]; omega); rw [HZN.out] at hR; dsimp only [enc2] at hy; clear hg4 hb4 hs4)
    have HBY := Lib.hid (show KeepsOthers W2 w4 from others_row HG4.out HCR.out)
    refine (round_wide hR).mono ?_
    rintro e W3 (⟨rfl, hJ3, hk, hkf⟩ | ⟨rfl, hJx3, hkf⟩)
    · have HJ5 := Lib.hid hJ3
      have HK5 := Lib.hid hk
      have HKF := Lib.hid hkf
      clear hJ3 hk hkf hy hR x1
      gi_wp2
      have hs1 := HS1.out
      have hsz := HSZ.out
      have hx1 : ¬ X W.heap.size := fun h => by have := HX.out _ h; omega
      have hx2 : ¬ X w1.heap.size := fun h => by have := HX.out _ h; omega
      refine ⟨(HBY.out.from _).trans (keeps_less HKF.out (by omega)), keepX_t (keepX_row HG4.out (.inr rfl)) (keepX_more HK5.out fun x h => .inl h), HJ5.out, HK5.out.2 _ _ HBX4.out hx1 (.inl rfl), s', true, KeepX.box HK5.out HB44.out hx2, ?_⟩
      rw [List.length_append]
      exact HS4.out
    · have HJ5 := Lib.hid hJx3
      have HKF := Lib.hid hkf
      clear hJx3 hkf hy hR x1
      gi_wp2
      have hs1 := HS1.out
      have hsz := HSZ.out
      exact ⟨(HBY.out.from _).trans (keeps_less HKF.out (by omega)), rfl, HJ5.out⟩
  case done =>
    rintro D xs W2 hD rfl ⟨hj, hbx, s, on, hb, hs⟩ hK
    rw [zip_whole HLEN.out] at hj
    have HJ5 := Lib.hid hj
    have HKD := Lib.hid hK
    have HDD := Lib.hid hD
    clear hj hbx hb hs hK
    go_wp2_with fail
    have hs1 := HS1.out
    have hsz := HSZ.out
    have hdd := HDD.out
    refine ⟨by simp, .inl ⟨_, _, rfl, run_takeDeferred HKD.out, ?_⟩⟩
    exact ⟨_, results_none rfl _ _ _, ⟨_, rfl⟩, .inl ⟨_, rfl, OwnAll.put HJ.out _ HJ5.out (by omega)⟩⟩
  case stop =>
    rintro D c pre W2 hD ⟨k, hk, rfl⟩ ⟨rfl, hjx⟩ hK
    rw [zip_part k hk HLEN.out] at hjx
    have HJ5 := Lib.hid hjx
    have HKD := Lib.hid hK
    have HDD := Lib.hid hD
    have HKK := Lib.hid hk
    clear hjx hK
    gi_wp2
    have hs1 := HS1.out
    have hsz := HSZ.out
    have hdd := HDD.out
    refine ⟨by simp, .inl ⟨_, _, rfl, run_takeDeferred HKD.out, ?_⟩⟩
    exact ⟨_, results_none rfl _ _ _, ⟨_, rfl⟩, .inr ⟨_, ⟨k, by rw [List.length_zip, HLEN.out]; have := HKK.out; have := HLEN.out; omega, rfl⟩, OwnAll.put HJX.out _ HJ5.out (by omega)⟩⟩
theorem plain_pairs2 (args : Array Value) (W : World) : (callFunc 44 args).run Try.prog W = .ok (.enter 44 args) W := enters_of Try.func44 (by kernel_rfl) rfl args W
theorem shapes_long {v u : Vw} (hv : rightV v = true) (hu : rightV u = true) (h : v.sh = u.sh) : (colL v).length = (colL u).length := by
  have h1 := col_length hv
  have h2 := col_length hu
  rw [h] at h1
  omega
theorem own9_pairs (A A' B B' : Option Addr) (n c n' c' m d m' d' : Nat) (s t su tu : List Int) (o ou : Int) (w : World) (h : NumsF w A n c s) (h' : NumsF w A' n' c' t) (hn : n ≤ 1048576) (hn' : n' ≤ 1048576) (k : NumsF w B m d su) (k' : NumsF w B' m' d' tu) (hm : m ≤ 1048576) (hm' : m' ≤ 1048576) (Away : Nat → Prop) :
    Calls Try.prog 23 #[.agg #[.slice A n c, .slice A' n' c', .int .i64 o], .agg #[.slice B m d, .slice B' m' d', .int .i64 ou]] w (SeqIs enc2 (pairsL ⟨s, t, o⟩ ⟨su, tu, ou⟩) Away w) := by
  refine (own9_pairsF A A' B B' n c n' c' m d m' d' s t su tu o ou w h h' hn hn' k k' hm hm').mono ?_
  rintro e w' (⟨hno, rfl, hg⟩ | ⟨hyes, x, y, rfl, b5, b6, b, z5, z6, rfl, rfl, hB5, hB6, hB, hZ5, hZ6, l5, l6, lb, hg⟩)
  · exact pairs1_is (pairs_no rfl rfl rfl hno) hg
  · have hall := hyes
    simp only [Bool.and_eq_true, decide_eq_true_eq] at hall
    have hlen := shapes_long hall.1.1 hall.1.2 (show (⟨s, t, o⟩ : Vw).sh = (⟨su, tu, ou⟩ : Vw).sh from hall.2)
    have hp : pairsL ⟨s, t, o⟩ ⟨su, tu, ou⟩ = (colL ⟨s, t, o⟩).zip (colL ⟨su, tu, ou⟩) := by
      unfold pairsL
      rw [if_pos hyes]
    rw [hp]
    refine ⟨hg, _, _, rfl, plain_pairs2, fun N W X hN hW hX l J Jx W2 hW2 hJ hJx hY h0 => ?_⟩
    have hgw := grown_join hW (grown_of_below hW2) (.inr (by simp))
    exact own9_pairs2 N hN l b b5 b6 z5 z6 _ _ X J Jx W2 hJ hJx hY (hB5.grown hgw (by simp)) (hB6.grown hgw (by simp)) (hB.grown hgw (by simp)) hZ5 hZ6 hlen (fun x hx => Nat.lt_of_lt_of_le (hX x hx).1 (Nat.le_trans hg.size hgw.size)) h0
end Go.Proofs.Ytdjenakmdjiknaa
end

/-! Layer 9, the program's own: slices.Grow of nil, slices.Concat of two lists of numbers, without. -/
section
namespace Go.Proofs.Ytdjenakmdjiknaa
open Go.ChangeShapes Go.WideShapes Go.ChangeAt Go.RowKit
set_option linter.unusedVariables false
set_option maxRecDepth 100000

set_option maxHeartbeats 2000000 in
theorem own9_grow (m : Nat) (hm : m ≤ 2097152) (w : World) : Calls Try.prog 62 #[.slice none 0 0, .int .i64 (m : Int)] w fun e w' => ∃ A c, e = .returned (.slice A 0 c) ∧ OwnI w' w.heap.size A 0 c [] ∧ w.grownBy w' none := by
  have m0 : IntKind.i64.wrap ((m : Int) - 0) = (m : Int) := by rw [Int.sub_zero]; exact IntWalk.i64_in _ (by omega)
  have m1 : wrap64 ((m : Int) - 0) = (m : Int) := by rw [Int.sub_zero]; exact IntWalk.wrap64_in _ (by omega)
  have m2 : wrap64 (m : Int) = (m : Int) := IntWalk.wrap64_in _ (by omega)
  have m3 : IntKind.i64.wrap (m : Int) = (m : Int) := IntWalk.i64_in _ (by omega)
  have d0 : decide ((m : Int) < 0) = false := decide_eq_false (by omega)
  by_cases h0 : m = 0
  · subst h0
    go_enter Try.func62, Try.ntmps62
    go_wp2_with fail
    go_ret
    exact ⟨none, 0, rfl, OwnI.nil _ _, grown_refl _ _⟩
  · have d1 : decide ((0 : Int) < (m : Int)) = true := decide_eq_true (by omega)
    have d2 : 0 < m := by omega
    obtain ⟨i0, hi, hz0, hz1, hz2⟩ := info_parts info_int
    have hrun := Lib.run_append_nil_zeros (P := Try.prog) w 22 3 22 3 i0 _ .i64 .i64 Try.underlying22 Try.underlying3 hi hz0 m (by omega) (by rw [hz1]; omega) (by omega) (by rw [hz2]; omega)
    have hge := grownCap_ge w m 0 3
    have hle := grownCap_le_maxLen w m 0 3 (by unfold maxLen; omega)
    generalize grownCap w m 0 3 = C at *
    obtain ⟨Z, hZ⟩ : ∃ Z, Z = Builtin.zeroCells (Value.int .i64 0).cells m ++ Builtin.zeroCells (Value.int .i64 0).cells (C - m) := ⟨_, rfl⟩
    have hZs : Z.size = C := by rw [hZ]; simp [Builtin.zeroCells, Value.cells]; omega
    rw [← hZ] at hrun
    obtain ⟨W0, hW0⟩ : ∃ W0, W0 = w.drew.alloc (.cells Z 3) := ⟨_, rfl⟩
    have HB := Lib.hid (show Box W0 w.heap.size 3 Z by rw [hW0]; exact Box.fresh w.drew _ _)
    have HG := Lib.hid (show w.grownBy W0 none by rw [hW0]; exact grown_alloc (grown_drew (grown_refl _ _)) _)
    rw [← hW0] at hrun
    have HR := Lib.hid hrun
    have hcut := fun w' => cut_h8 w.heap.size 0 m C 0 (by omega) w'
    have HC := Lib.hid (And.intro hZs hle)
    clear hZ hZs hW0 hrun hge hle hi hz0 hz1 hz2 h0
    go_enter Try.func62, Try.ntmps62
    go_wp2_with (at_builtin; refine Lib.wpList_append_run _ rfl _ _ _ _ rfl _ _ rfl rfl _ _ HR.out ?_)
    go_ret
    exact ⟨some ⟨w.heap.size, 0, none⟩, C, rfl, ⟨rfl, rfl, .inr ⟨w.heap.size, C, Z, rfl, Nat.le_refl _, HB.out, Nat.zero_le _, HC.out.2, by rw [HC.out.1]; simp, by simp [intV]⟩⟩, HG.out⟩
/-! ### Concat of two -/
theorem own_from {w : World} {base n c x : Nat} {A : Option Addr} {xs : List Int} (h : OwnI w base A n c xs) (e : A.map (·.block) = some x) : base ≤ x := by
  rcases h.2.2 with ⟨e2, _⟩ | ⟨k, cap, cur, e2, hk, _⟩
  · injection e2 with e3 e4 e5
    subst e3
    cases e
  · injection e2 with e3 e4 e5
    subst e3
    injection e with e
    subst e
    exact hk
def catN (n1 n2 : Nat) : Nat → Nat
  | 0 => 0
  | 1 => n1
  | _ => n1 + n2
def catL (l1 l2 : List Int) : Nat → List Int
  | 0 => []
  | 1 => l1
  | _ => l1 ++ l2
set_option maxHeartbeats 4000000 in
theorem own9_concat (bL : Nat) (A1 A2 : Option Addr) (n1 c1 n2 c2 : Nat) (l1 l2 : List Int) (w : World) (hb : Box w bL 22 #[.slice A1 n1 c1, .slice A2 n2 c2]) (h1 : NumsF w A1 n1 c1 l1) (h2 : NumsF w A2 n2 c2 l2) (hn1 : n1 ≤ 1048576) (hn2 : n2 ≤ 1048576) :
    Calls Try.prog 48 #[.slice (some ⟨bL, 0, none⟩) 2 2] w fun e w' => ∃ A c, e = .returned (.slice A (n1 + n2) c) ∧ OwnI w' w.heap.size A (n1 + n2) c (l1 ++ l2) ∧ w.grownBy w' none := by
  have a0 := hb.get 0
  have a1 := hb.get 1
  have HB := Lib.hid hb
  have H1 := Lib.hid (fun w' (hg : w.grownBy w' none) => (h1.grow hg).1)
  have H2 := Lib.hid (fun w' (hg : w.grownBy w' none) => (h2.grow hg).1)
  have HF1 := Lib.hid h1.2
  have HF2 := Lib.hid h2.2
  have hgr := own9_grow (n1 + n2) (by omega) w
  rw [Int.natCast_add] at hgr
  have HGR := Lib.hid hgr
  clear hb h1 h2 hgr
  go_enter Try.func48, Try.ntmps48
  go_wp2_with fail
  go_loop [3, 11] (fun sz i => ∃ j : Nat, j ≤ 2 ∧ i = .int .i64 j ∧ sz = .int .i64 ((catN n1 n2 j : Nat) : Int)) (fun _ i => 2 - (intOf i).toNat)
  case atStart => exact ⟨0, by omega, rfl, rfl⟩
  case round =>
    obtain ⟨j, hj, rfl, rfl⟩ := hrel
    rcases (show j = 0 ∨ j = 1 ∨ j = 2 by omega) with rfl | rfl | rfl
    · have m1 : wrap64 (0 + (n1 : Int)) = (n1 : Int) := by rw [Int.zero_add]; exact IntWalk.wrap64_in _ (by omega)
      have m2 : wrap64 (n1 : Int) = (n1 : Int) := IntWalk.wrap64_in _ (by omega)
      have d1 : decide ((n1 : Int) < 0) = false := decide_eq_false (by omega)
      dsimp only [catN]
      go_wp2_with fail
      go_round
      case rel => exact ⟨1, by omega, by go_num, by first | rfl | go_num⟩
      case measure => simp [intOf]
    · have m1 : wrap64 ((n1 : Int) + (n2 : Int)) = (n1 : Int) + (n2 : Int) := IntWalk.wrap64_in _ (by omega)
      have d1 : decide ((n1 : Int) + (n2 : Int) < 0) = false := decide_eq_false (by omega)
      dsimp only [catN]
      go_wp2_with fail
      go_round
      case rel => exact ⟨2, by omega, by go_num, by first | rfl | go_num⟩
      case measure => simp [intOf]
    · dsimp only [catN]
      go_wp2_with fail
      refine HGR.out.mono ?_
      rintro e w2 ⟨A, c, rfl, ho, hg⟩
      have HO2 := Lib.hid ho
      have HG2 := Lib.hid hg
      clear ho hg
      go_wp2_with fail
      go_loopw [6, 27] (fun v i wr => ∃ (j : Nat) (A : Option Addr) (c : Nat), j ≤ 2 ∧ i = .int .i64 j ∧ v = .slice A (catN n1 n2 j) c ∧ OwnI wr w.heap.size A (catN n1 n2 j) c (catL l1 l2 j) ∧ w.grownBy wr none) (fun _ i _ => 2 - (intOf i).toNat)
      case atStart => exact ⟨0, A, c, by omega, rfl, rfl, HO2.out, HG2.out⟩
      case round =>
        obtain ⟨j, A, c, hj, rfl, rfl, ho, hg⟩ := hrel
        have HO := Lib.hid ho
        have HG := Lib.hid hg
        have b0 := (HB.out.grown hg (by simp)).get 0
        have b1 := (HB.out.grown hg (by simp)).get 1
        have hwz := hg.size
        rcases (show j = 0 ∨ j = 1 ∨ j = 2 by omega) with rfl | rfl | rfl
        · have hnone : A1 = none → n1 = 0 ∧ c1 = 0 := fun e => by have h1 := HF1.out.1; have h2 := HF1.out.2 e; omega
          obtain ⟨A3, c3, w3, hrun, ho3, hg3, _⟩ := run_append_ints2 HO.out (H1.out wr HG.out) hnone (by omega) (by simp only [catN]; omega) 22
          rw [show catN n1 n2 0 + n1 = catN n1 n2 1 by simp [catN]] at hrun ho3
          have HR := Lib.hid hrun
          have HO3 := Lib.hid (show OwnI w3 w.heap.size A3 (catN n1 n2 1) c3 (catL l1 l2 1) from ho3)
          have HG3 := Lib.hid (show w.grownBy w3 none from grown_join HG.out hg3 (.inr fun x e => own_from HO.out e))
          clear ho hg hrun ho3 hg3 hwz hnone
          go_wp2_with (at_builtin; refine Lib.wpList_append_run _ rfl _ _ _ _ rfl _ _ rfl rfl _ _ HR.out ?_)
          go_roundw
          case rel => exact ⟨1, A3, c3, by omega, by go_num, rfl, HO3.out, HG3.out⟩
          case measure => simp [intOf]
        · have hnone : A2 = none → n2 = 0 ∧ c2 = 0 := fun e => by have h1 := HF2.out.1; have h2 := HF2.out.2 e; omega
          obtain ⟨A3, c3, w3, hrun, ho3, hg3, _⟩ := run_append_ints2 HO.out (H2.out wr HG.out) hnone (by omega) (by simp only [catN]; omega) 22
          rw [show catN n1 n2 1 + n2 = catN n1 n2 2 by simp [catN]] at hrun ho3
          have HR := Lib.hid hrun
          have HO3 := Lib.hid (show OwnI w3 w.heap.size A3 (catN n1 n2 2) c3 (catL l1 l2 2) from ho3)
          have HG3 := Lib.hid (show w.grownBy w3 none from grown_join HG.out hg3 (.inr fun x e => own_from HO.out e))
          clear ho hg hrun ho3 hg3 hwz hnone
          go_wp2_with (at_builtin; refine Lib.wpList_append_run _ rfl _ _ _ _ rfl _ _ rfl rfl _ _ HR.out ?_)
          go_roundw
          case rel => exact ⟨2, A3, c3, by omega, by go_num, rfl, HO3.out, HG3.out⟩
          case measure => simp [intOf]
        · clear ho hg hwz
          go_wp2_with fail
          go_ret
          exact ⟨A, c, rfl, HO.out, HG.out⟩
/-! ### without -/
theorem box_drw {w : World} {g : Nat} {t : TypeId} {cs : Array Value} (h : Box w g t cs) : Box w.drew g t cs := h
theorem numsF_of {w : World} {A : Option Addr} {n c : Nat} {zs : List Int} (h : Nums w w.heap.size A n zs) (hf : n ≤ c) (hA : A = none → n = 0 ∧ c = 0) : NumsF w A n c zs := ⟨h, hf, fun e => (hA e).2⟩
theorem cut_head9 {w : World} {n c k : Nat} {A : Option Addr} {xs : List Int} (h : NumsF w A n c xs) (hk : k ≤ n) :
    ∃ A2 c2, (∀ w' : World, (Instr.slice 22 (.slice A n c) none (some (.int .i64 (k : Int))) none).run Try.prog w' = .ok (.slice A2 k c2) w') ∧ NumsF w A2 k c2 (xs.take k) := by
  refine ⟨if c = 0 then A else A.map (·.add (0 * 1)), c, fun w' => ?_, ?_⟩
  · rw [run_slice_h (P := Try.prog) (w := w') (t := 22) (ht := Try.underlying22) (kh := .i64) (h := (k : Int)) (h0 := by omega) (h2 := by have := h.2.1; omega), size_int]
    simp only [Result.andThen, sliced, Int.toNat_natCast, Nat.sub_zero]
  · obtain ⟨h1, h2, h3⟩ := h
    refine ⟨⟨by rw [List.length_take, h1.1]; omega, fun h0 => ?_⟩, by omega, fun e => ?_⟩
    · obtain ⟨b, o, e, hb, hc⟩ := h1.2 (by omega)
      rw [if_neg (by omega)]
      subst e
      refine ⟨b, o, by simp [Addr.add], hb, fun j hj => ?_⟩
      rw [hc j (by omega)]
      simp [List.getD, hj]
    · cases A with
      | none => exact h3 rfl
      | some A => split at e <;> simp at e
theorem cut_tail9 {w : World} {n c k : Nat} {A : Option Addr} {xs : List Int} (h : NumsF w A n c xs) (hk : k ≤ n) :
    ∃ A2 c2, (∀ w' : World, (Instr.slice 22 (.slice A n c) (some (.int .i64 (k : Int))) none none).run Try.prog w' = .ok (.slice A2 (n - k) c2) w') ∧ NumsF w A2 (n - k) c2 (xs.drop k) := by
  refine ⟨if c = k then A else A.map (·.add (k * 1)), c - k, fun w' => ?_, ?_⟩
  · rw [run_slice_l (P := Try.prog) (w := w') (t := 22) (ht := Try.underlying22) (kl := .i64) (l := (k : Int)) (h0 := by omega) (h1 := by omega), size_int]
    simp only [Result.andThen, sliced, Int.toNat_natCast]
  · obtain ⟨h1, h2, h3⟩ := h
    refine ⟨⟨by rw [List.length_drop, h1.1], fun h0 => ?_⟩, by omega, fun e => ?_⟩
    · obtain ⟨b, o, e, hb, hc⟩ := h1.2 (by omega)
      subst e
      rw [if_neg (by omega)]
      refine ⟨b, o + k, by simp [Addr.add], hb, fun j hj => ?_⟩
      have := hc (k + j) (by omega)
      rw [show o + (k + j) = o + k + j by omega] at this
      rw [this]
      simp [List.getD, List.getElem?_drop]
    · cases A with
      | none => have := h3 rfl; omega
      | some A => split at e <;> simp at e
set_option maxHeartbeats 4000000 in
theorem own9_without (A : Option Addr) (n c k : Nat) (l : List Int) (w : World) (h : NumsF w A n c l) (hn : n ≤ 1048576) (hk : k < n) :
    Calls Try.prog 28 #[.slice A n c, .int .i64 (k : Int)] w fun e w' => ∃ A' c', e = .returned (.slice A' (n - 1) c') ∧ OwnI w' w.heap.size A' (n - 1) c' (l.take k ++ l.drop (k + 1)) ∧ w.grownBy w' none := by
  obtain ⟨A2, c2, hs2, hn2⟩ := cut_head9 h (k := k) (by omega)
  obtain ⟨A3, c3, hs3, hn3⟩ := cut_tail9 h (k := k + 1) (by omega)
  rw [Int.natCast_add, Int.natCast_one] at hs3
  have m1 : wrap64 ((k : Int) + 1) = (k : Int) + 1 := IntWalk.wrap64_in _ (by omega)
  have m0 : IntKind.i64.wrap ((k : Int) + 1) = (k : Int) + 1 := IntWalk.i64_in _ (by omega)
  have HCT := Lib.hid (fun (w' : World) (g : Nat) (hb : Box w' g 22 #[.slice A2 k c2, .slice A3 (n - (k + 1)) c3]) (hg : w.grownBy w' none) => own9_concat g A2 A3 k c2 (n - (k + 1)) c3 (l.take k) (l.drop (k + 1)) w' hb (hn2.grow hg) (hn3.grow hg) (by omega) (by omega))
  rw [show k + (n - (k + 1)) = n - 1 by omega] at HCT
  clear hn2 hn3 h
  go_enter Try.func28, Try.ntmps28
  go_upto_region 1 with fail
  go_region_held3 (fun _ => True) (exact trivial) (first | (go_at_call 48; refine (HCT.out _ _ (box_drw (Box.fresh w _ _)) (by repeat (first | exact grown_refl _ _ | refine grown_drew ?_ | refine grown_drewN ?_ _ | refine grown_alloc ?_ _))).mono ?_; rintro e w' ⟨A', c', rfl, ho, hg⟩; have HO := Lib.hid ho; have HG := Lib.hid (show w.grownBy w' none from grown_join (by repeat (first | exact grown_refl _ _ | refine grown_drew ?_ | refine grown_drewN ?_ _ | refine grown_alloc ?_ _)) hg (.inr (by simp))); clear ho hg))
  have HO2 := Lib.hid (HO.out.lower (show w.heap.size ≤ (w.alloc (.cells #[.slice A2 k c2, .slice A3 (n - (k + 1)) c3] 22)).drew.heap.size from (grown_drew (grown_alloc (grown_refl w none) _)).size))
  clear HO
  go_wp2_with fail
  go_ret
  exact ⟨A', c', rfl, HO2.out, HG.out⟩
end Go.Proofs.Ytdjenakmdjiknaa
end
