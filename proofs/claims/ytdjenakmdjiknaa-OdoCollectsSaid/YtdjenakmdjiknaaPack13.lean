/-
  OdoCollects holds for every input: the cells of any view are gathered in their order, and line by line. Conditions: none beside the given row's own.
-/
import Derived.Test.YtdjenakmdjiknaaPack1
import Derived.Test.YtdjenakmdjiknaaPack2
import Derived.Test.YtdjenakmdjiknaaPack3
import Derived.Test.YtdjenakmdjiknaaPack4
import Derived.Test.YtdjenakmdjiknaaPack5
import Derived.Test.YtdjenakmdjiknaaPack6
import Derived.Test.YtdjenakmdjiknaaPack7
import Derived.Test.YtdjenakmdjiknaaPack8
import Derived.Test.YtdjenakmdjiknaaPack9
import Derived.Test.YtdjenakmdjiknaaPack10
import Derived.Test.YtdjenakmdjiknaaPack11
import Derived.Test.YtdjenakmdjiknaaPack12

/-! Layer 9, the program's own: Lines. -/
section
namespace Go.Proofs.Ytdjenakmdjiknaa
open Go.ChangeShapes Go.WideShapes Go.ChangeAt Go.RowKit Go.Shelf
set_option linter.unusedVariables false
set_option maxRecDepth 100000
attribute [local go_sem] Oper.semAt_some

theorem fourteen {i : Nat} (h : i < 14) : i = 0 ∨ i = 1 ∨ i = 2 ∨ i = 3 ∨ i = 4 ∨ i = 5 ∨ i = 6 ∨ i = 7 ∨ i = 8 ∨ i = 9 ∨ i = 10 ∨ i = 11 ∨ i = 12 ∨ i = 13 := by omega
theorem thirteen {i : Nat} (h : i < 13) : i = 0 ∨ i = 1 ∨ i = 2 ∨ i = 3 ∨ i = 4 ∨ i = 5 ∨ i = 6 ∨ i = 7 ∨ i = 8 ∨ i = 9 ∨ i = 10 ∨ i = 11 ∨ i = 12 := by omega
theorem plain_lines1 (args : Array Value) (W : World) : (callFunc 27 args).run Try.prog W = .ok (.enter 27 args) W := enters_of Try.func27 (by kernel_rfl) rfl args W
theorem lines1_tells (n : Nat) (X : Nat → Prop) (R : LineZ → World → Prop) (W0 : World) (N : Nat) : SeqTells n 27 #[] encZ (KeepX X) R (fun zs => zs.map LineZ.off = []) (fun pre => ∃ k, k ≤ ([] : List Int).length ∧ pre.map LineZ.off = ([] : List Int).take k) N W0 := by
  intro l J Jx W hW hJ hJx hY h0
  refine callsIn_of_wp Try.func27 rfl trivial ?_ rfl
  simp only [Try.ntmps27, List.size_toArray, List.length_cons, List.length_nil, Nat.reduceAdd, Nat.reduceSub, Array.replicate_succ, Array.replicate_zero, List.push_toArray, List.append_toArray, List.nil_append, List.cons_append]
  gi_wp2
  go_end0
  exact ⟨⟨_, rfl⟩, .inl ⟨[], rfl, h0⟩⟩
theorem lines1_is {w w' : World} {v : Vw} {i : Int} {Away : Nat → Prop} (h : linesL v i = []) (hg : w.grownBy w' none) : SeqLines v i Away w (.returned (.func (.func 27) #[] #[])) w' := by
  unfold SeqLines
  rw [h]
  exact ⟨hg, _, _, rfl, plain_lines1, fun n W X hn hW hX => lines1_tells n X _ W _⟩
/-- what holds in the region that takes the axis' length and stride, whichever of its operations have come up. -/
def LinesInv3 (w2 : World) (FR : Value → Value → Value → Value → Value → Value → Value → Value → Value → Value → Value → Value → Act) (y z : Int) (W0 W1 W2 W3 W4 W5 W6 W7 W8 W9 : Value) (f : Nat → Bool) (a : Act) (wi : World) : Prop :=
  w2.grownBy wi none ∧ ∃ (u5 u6 u23 u24 u25 u26 u27 u28 u29 u30 u31 u32 : Value) (b5 b6 : Nat) (c5 c6 : Value), a = FR u5 u6 u23 u24 u25 u26 u27 u28 u29 u30 u31 u32 ∧
  (f 0 = true → u23 = W0) ∧ (f 1 = true → u24 = W1) ∧ (f 2 = true → u25 = W2) ∧ (f 3 = true → u26 = W3) ∧ (f 4 = true → u27 = W4) ∧ (f 5 = true → u28 = W5) ∧ (f 6 = true → u29 = W6) ∧ (f 7 = true → u30 = W7) ∧ (f 8 = true → u31 = W8) ∧ (f 9 = true → u32 = W9) ∧
  (f 10 = true → u5 = .pointer (some ⟨b5, 0, none⟩) ∧ w2.heap.size ≤ b5 ∧ Box wi b5 3 #[c5] ∧ (f 12 = true → c5 = .int .i64 y)) ∧ (f 11 = true → u6 = .pointer (some ⟨b6, 0, none⟩) ∧ w2.heap.size ≤ b6 ∧ Box wi b6 3 #[c6] ∧ (f 13 = true → c6 = .int .i64 z)) ∧
  (f 10 = true → f 11 = true → b5 ≠ b6) ∧ (f 12 = true → f 10 = true ∧ f 4 = true) ∧ (f 13 = true → f 11 = true ∧ f 9 = true)
/-- .. and in the one that makes the view of the other axes. -/
def LinesInv4 (w3 : World) (FR : Value → Value → Value → Value → Value → Value → Value → Value → Value → Value → Value → Value → Act) (m : Nat) (ls lt : List Int) (W0 W1 W2 W4 W5 W6 W8 W9 : Value) (f : Nat → Bool) (a : Act) (wi : World) : Prop :=
  w3.grownBy wi none ∧ ∃ (u7 u33 u34 u35 u36 u37 u38 u39 u40 u41 u42 u43 : Value) (A8 B8 : Option Addr) (c8 d8 b7 : Nat) (p7 q7 r7 : Value), a = FR u7 u33 u34 u35 u36 u37 u38 u39 u40 u41 u42 u43 ∧
  (f 0 = true → u33 = W0) ∧ (f 1 = true → u34 = W1) ∧ (f 2 = true → u35 = W2) ∧ (f 4 = true → u37 = W4) ∧ (f 5 = true → u38 = W5) ∧ (f 6 = true → u39 = W6) ∧ (f 8 = true → u41 = W8) ∧ (f 9 = true → u42 = W9) ∧
  (f 3 = true → u36 = .slice A8 m c8 ∧ OwnI wi w3.heap.size A8 m c8 ls) ∧ (f 7 = true → u40 = .slice B8 m d8 ∧ OwnI wi w3.heap.size B8 m d8 lt) ∧ (f 10 = true → u43 = .agg #[u36, u40, u42]) ∧
  (f 11 = true → u7 = .pointer (some ⟨b7, 0, none⟩) ∧ w3.heap.size ≤ b7 ∧ Box wi b7 34 #[p7, q7, r7] ∧ (f 12 = true → p7 = u36 ∧ q7 = u40 ∧ r7 = u42)) ∧ (f 10 = true → f 3 = true ∧ f 7 = true ∧ f 9 = true) ∧ (f 12 = true → f 11 = true ∧ f 10 = true)
theorem own_view9 {w : World} {B n c g : Nat} {A : Option Addr} {zs : List Int} {cs : Array Value} (h : OwnI w B A n c zs) (hb : Box w g 34 cs) : A.map (·.block) ≠ some g := by
  have := own_apart h.2 hb (by decide)
  rw [map_own] at this
  exact this
/-- what Lines' other function has caught: the length and the stride of the axis, and the places of the others. -/
def CaughtL (u : Vw) (y z : Int) (w : World) (x8 x5 x6 : Value) (w' : World) : Prop := ∃ b8 b5 b6 b zs, x8 = .pointer (some ⟨b8, 0, none⟩) ∧ x5 = .pointer (some ⟨b5, 0, none⟩) ∧ x6 = .pointer (some ⟨b6, 0, none⟩) ∧
  Box w' b8 52 #[.func (.func 45) #[] #[.pointer (some ⟨b, 0, none⟩)]] ∧ Box w' b5 3 #[.int .i64 y] ∧ Box w' b6 3 #[.int .i64 z] ∧ WalkB w' b 62 [] zs ∧ WalkOf zs u 0 false ∧
  w.heap.size ≤ b8 ∧ w.heap.size ≤ b5 ∧ w.heap.size ≤ b6 ∧ w.heap.size ≤ b ∧ w.grownBy w' none
theorem axis_not {v : Vw} {i : Int} (h : rightV v = false ∨ i < 0 ∨ (v.sh.length : Int) ≤ i) : axisB v i = false := by
  unfold axisB
  rcases h with h | h
  · rw [h]; rfl
  · rw [show decide (0 ≤ i ∧ i < (v.sh.length : Int)) = false from decide_eq_false (by omega), Bool.and_false]
set_option maxHeartbeats 8000000 in
theorem own9_linesF (A A' : Option Addr) (n c n' c' : Nat) (s t : List Int) (o i : Int) (w : World) (h : NumsF w A n c s) (h' : NumsF w A' n' c' t) (hn : n ≤ 1048576) (hn' : n' ≤ 1048576) (hi : I64 i) :
    Calls Try.prog 9 #[.agg #[.slice A n c, .slice A' n' c', .int .i64 o], .int .i64 i] w fun e w' =>
      axisB ⟨s, t, o⟩ i = false ∧ e = .returned (.func (.func 27) #[] #[]) ∧ w.grownBy w' none ∨
      axisB ⟨s, t, o⟩ i = true ∧ ∃ x8 x5 x6, e = .returned (.func (.func 29) #[] #[x8, x5, x6]) ∧ CaughtL (restV ⟨s, t, o⟩ i.toNat) (s.getD i.toNat 0) (t.getD i.toNat 0) w x8 x5 x6 w' := by
  have HR := Lib.hid (fun w' (hg : w.grownBy w' none) => own8_right A A' n c n' c' s t o w' (h.grow hg) (h'.grow hg) hn hn')
  have HL := Lib.hid (And.intro h.len h'.len)
  have HNS := Lib.hid (fun w' (hg : w.grownBy w' none) => h.grow hg)
  have HNT := Lib.hid (fun w' (hg : w.grownBy w' none) => h'.grow hg)
  obtain ⟨w1, hw1⟩ : ∃ w1, w1 = w.alloc (.cells #[.slice A n c, .slice A' n' c', .int .i64 o] 34) := ⟨_, rfl⟩
  have HX := Lib.hid (show Box w1 w.heap.size 34 #[.slice A n c, .slice A' n' c', .int .i64 o] by rw [hw1]; exact Box.fresh _ _ _)
  have HG1 := Lib.hid (show w.grownBy w1 none by rw [hw1]; exact World.grownBy_alloc _ _ _)
  have HW1 := Lib.hid hw1
  clear hw1 h h'
  cases hr : rightV ⟨s, t, o⟩ with
  | false =>
    rw [hr] at HR
    have HA := Lib.hid (axis_not (v := ⟨s, t, o⟩) (i := i) (.inl hr))
    clear hr
    go_enter Try.func9, Try.ntmps9
    go_upto_region 1 with fail
    rw [← HW1.out]
    have x0 := HX.out.get 0
    have x1 := HX.out.get 1
    have x2 := HX.out.get 2
    go_wp2_with fail
    refine (HR.out _ HG1.out).mono ?_
    rintro e w2 ⟨rfl, hg⟩
    have HG2 := Lib.hid (grown_join HG1.out hg (.inr (by simp)))
    clear hg x0 x1 x2
    go_wp2_with fail
    go_ret
    exact .inl ⟨HA.out, rfl, HG2.out⟩
  | true =>
    rw [hr] at HR
    have hl' : t.length = s.length := (rightV_all hr).2.1
    obtain rfl : n' = n := by rw [← HL.out.1, ← HL.out.2, hl']
    have hrl : s.length = n' := HL.out.1
    by_cases hneg : i < 0
    · have HA := Lib.hid (axis_not (v := ⟨s, t, o⟩) (i := i) (.inr (.inl hneg)))
      have d0 : decide (i < 0) = true := decide_eq_true hneg
      clear hr hneg hl' hrl
      go_enter Try.func9, Try.ntmps9
      go_upto_region 1 with fail
      rw [← HW1.out]
      have x0 := HX.out.get 0
      have x1 := HX.out.get 1
      have x2 := HX.out.get 2
      go_wp2_with fail
      refine (HR.out _ HG1.out).mono ?_
      rintro e w2 ⟨rfl, hg⟩
      have HG2 := Lib.hid (grown_join HG1.out hg (.inr (by simp)))
      clear hg x0 x1 x2
      go_wp2_with fail
      go_ret
      exact .inl ⟨HA.out, rfl, HG2.out⟩
    · have d0 : decide (i < 0) = false := decide_eq_false hneg
      by_cases hbig : (n' : Int) ≤ i
      · have HA := Lib.hid (axis_not (v := ⟨s, t, o⟩) (i := i) (.inr (.inr (by show (s.length : Int) ≤ i; omega))))
        have d1 : decide ((n' : Int) ≤ i) = true := decide_eq_true hbig
        clear hr hneg hbig hl' hrl
        go_enter Try.func9, Try.ntmps9
        go_upto_region 1 with fail
        rw [← HW1.out]
        have x0 := HX.out.get 0
        have x1 := HX.out.get 1
        have x2 := HX.out.get 2
        go_wp2_with fail
        refine (HR.out _ HG1.out).mono ?_
        rintro e w2 ⟨rfl, hg⟩
        have HG2 := Lib.hid (grown_join HG1.out hg (.inr (by simp)))
        have HX2 := Lib.hid (HX.out.grown hg (by simp))
        clear hg x0 x1 x2
        have x0 := HX2.out.get 0
        go_wp2_with fail
        go_ret
        exact .inl ⟨HA.out, rfl, HG2.out⟩
      · have d1 : decide ((n' : Int) ≤ i) = false := decide_eq_false hbig
        obtain ⟨k, rfl⟩ : ∃ k : Nat, i = (k : Int) := ⟨i.toNat, by omega⟩
        have hk : k < n' := by omega
        have HA := Lib.hid (show axisB ⟨s, t, o⟩ (k : Int) = true by
          unfold axisB
          rw [hr, Bool.true_and]
          exact decide_eq_true ⟨by omega, by show (k : Int) < (s.length : Int); omega⟩)
        rw [Int.toNat_natCast]
        obtain ⟨y, hy⟩ : ∃ y, s.getD k 0 = y := ⟨_, rfl⟩
        obtain ⟨z, hz⟩ : ∃ z, t.getD k 0 = z := ⟨_, rfl⟩
        rw [hy, hz]
        have HYE := Lib.hid hy
        have HZE := Lib.hid hz
        clear hy hz
        have HWS := Lib.hid (fun (w' : World) (hg : w.grownBy w' none) => own9_without A n' c k s w' (HNS.out w' hg) hn hk)
        have HWT := Lib.hid (fun (w' : World) (hg : w.grownBy w' none) => own9_without A' n' c' k t w' (HNT.out w' hg) hn hk)
        clear hr hneg hbig hl' hrl
        go_enter Try.func9, Try.ntmps9
        go_upto_region 1 with fail
        rw [← HW1.out]
        have x0 := HX.out.get 0
        have x1 := HX.out.get 1
        have x2 := HX.out.get 2
        go_wp2_with fail
        refine (HR.out _ HG1.out).mono ?_
        rintro e w2 ⟨rfl, hg⟩
        have HG2 := Lib.hid (grown_join HG1.out hg (.inr (by simp)))
        have HX2 := Lib.hid (HX.out.grown hg (by simp))
        clear hg x0 x1 x2
        have x0 := HX2.out.get 0
        have x1 := HX2.out.get 1
        obtain ⟨bS, oS, e1, _, cS⟩ := (HNS.out w2 HG2.out).1.2.at_ hk
        obtain ⟨bT, oT, e2, _, cT⟩ := (HNT.out w2 HG2.out).1.2.at_ hk
        go_wp2_with fail
        subst e1
        subst e2
        have HCS := Lib.hid (fun w' (hg : w2.grownBy w' none) => (hg.cell_far ⟨bS, oS + k, none⟩ (block_lt_of_cell cS) (by simp)).trans cS)
        have HCT := Lib.hid (fun w' (hg : w2.grownBy w' none) => (hg.cell_far ⟨bT, oT + k, none⟩ (block_lt_of_cell cT) (by simp)).trans cT)
        have q0 : (0 : Int) ≤ (k : Int) := Int.natCast_nonneg k
        have q1 : (k : Int) < (n' : Int) := by omega
        rw [HYE.out] at HCS
        rw [HZE.out] at HCT
        clear x0 x1 cS cT
        refine region_inv (by kernel_rfl) (LinesInv3 w2 (fun u5 u6 u23 u24 u25 u26 u27 u28 u29 u30 u31 u32 => { tmps := #[.agg #[.slice (some ⟨bS, oS, none⟩) n' c, .slice (some ⟨bT, oT, none⟩) n' c', .int .i64 o], .int .i64 (k : Int), .pointer (some ⟨w.heap.size, 0, none⟩), undef, .nilFunc, u5, u6, undef, undef, .agg #[.slice (some ⟨bS, oS, none⟩) n' c, .slice (some ⟨bT, oT, none⟩) n' c', .int .i64 o], .bool true, .bool false, .bool false, .int .i64 (k : Int), .bool false, .bool false, .bool false, .int .i64 (k : Int), .pointer (some ⟨w.heap.size, 0, none⟩), .slice (some ⟨bS, oS, none⟩) n' c, .int .i64 (n' : Nat), .bool (decide (n' ≤ k)), .bool (decide (n' ≤ k)), u23, u24, u25, u26, u27, u28, u29, u30, u31, u32, undef, undef, undef, undef, undef, undef, undef, undef, undef, undef, undef, undef, undef, undef], defers := [] }) y z (.pointer (some ⟨w.heap.size, 0, none⟩)) (.slice (some ⟨bS, oS, none⟩) n' c) (.int .i64 (k : Int)) (.pointer (some ⟨bS, oS + k, none⟩)) (.int .i64 y) (.pointer (some ⟨w.heap.size, 1, none⟩)) (.slice (some ⟨bT, oT, none⟩) n' c') (.int .i64 (k : Int)) (.pointer (some ⟨bT, oT + k, none⟩)) (.int .i64 z)) (by kernel_rfl) ?step3 ?fin3 ?start3
        case start3 =>
          exact ⟨grown_drew (grown_refl _ _), undef, undef, undef, undef, undef, undef, undef, undef, undef, undef, undef, undef, 0, 0, undef, undef, rfl, (fun h => by cases h), (fun h => by cases h), (fun h => by cases h), (fun h => by cases h), (fun h => by cases h), (fun h => by cases h), (fun h => by cases h), (fun h => by cases h), (fun h => by cases h), (fun h => by cases h), (fun h => by cases h), (fun h => by cases h), (fun h => by cases h), (fun h => by cases h), fun h => by cases h⟩
        case step3 =>
          intro f i op a wi hop hf hall hinv
          obtain ⟨hg, u5, u6, u23, u24, u25, u26, u27, u28, u29, u30, u31, u32, b5, b6, c5, c6, rfl, h0, h1, h2, h3, h4, h5, h6, h7, h8, h9, h10, h11, hne, h12, h13⟩ := hinv
          have hi : i < 14 := (Array.getElem?_eq_some_iff.1 hop).1
          have HGI := Lib.hid hg
          have H0 := Lib.hid h0
          have H1 := Lib.hid h1
          have H2 := Lib.hid h2
          have H3 := Lib.hid h3
          have H4 := Lib.hid h4
          have H5 := Lib.hid h5
          have H6 := Lib.hid h6
          have H7 := Lib.hid h7
          have H8 := Lib.hid h8
          have H9 := Lib.hid h9
          have H10 := Lib.hid h10
          have H11 := Lib.hid h11
          have HNE := Lib.hid hne
          have H12 := Lib.hid h12
          have H13 := Lib.hid h13
          have HF := Lib.hid hf
          clear hf hg h0 h1 h2 h3 h4 h5 h6 h7 h8 h9 h10 h11 hne h12 h13
          rcases fourteen hi with rfl | rfl | rfl | rfl | rfl | rfl | rfl | rfl | rfl | rfl | rfl | rfl | rfl | rfl <;> obtain rfl := Option.some.inj hop <;> refine ⟨by simp [Region.wanted], ?_⟩ <;> clear hop hi
          · clear hall
            go_simp
            exact ⟨HGI.out, u5, u6, _, u24, u25, u26, u27, u28, u29, u30, u31, u32, b5, b6, c5, c6, rfl, fun _ => rfl, fun h => H1.out h, fun h => H2.out h, fun h => H3.out h, fun h => H4.out h, fun h => H5.out h, fun h => H6.out h, fun h => H7.out h, fun h => H8.out h, fun h => H9.out h, fun h => H10.out h, fun h => H11.out h, fun h k => HNE.out h k, fun h => H12.out h, fun h => H13.out h⟩
          · have e0 := H0.out (hall ⟨0, .data⟩ (by simp) rfl)
            subst e0
            have x0 := (HX2.out.grown HGI.out (by simp)).get 0
            clear hall
            go_simp
            exact ⟨HGI.out, u5, u6, _, _, u25, u26, u27, u28, u29, u30, u31, u32, b5, b6, c5, c6, rfl, fun h => H0.out h, fun _ => rfl, fun h => H2.out h, fun h => H3.out h, fun h => H4.out h, fun h => H5.out h, fun h => H6.out h, fun h => H7.out h, fun h => H8.out h, fun h => H9.out h, fun h => H10.out h, fun h => H11.out h, fun h k => HNE.out h k, fun h => H12.out h, fun h => H13.out h⟩
          · clear hall
            go_simp
            exact ⟨HGI.out, u5, u6, u23, u24, _, u26, u27, u28, u29, u30, u31, u32, b5, b6, c5, c6, rfl, fun h => H0.out h, fun h => H1.out h, fun _ => rfl, fun h => H3.out h, fun h => H4.out h, fun h => H5.out h, fun h => H6.out h, fun h => H7.out h, fun h => H8.out h, fun h => H9.out h, fun h => H10.out h, fun h => H11.out h, fun h k => HNE.out h k, fun h => H12.out h, fun h => H13.out h⟩
          · have e1 := H1.out (hall ⟨1, .data⟩ (by simp) rfl)
            have e2 := H2.out (hall ⟨2, .data⟩ (by simp) rfl)
            subst e1
            subst e2
            clear hall
            go_simp
            exact ⟨HGI.out, u5, u6, u23, _, _, _, u27, u28, u29, u30, u31, u32, b5, b6, c5, c6, rfl, fun h => H0.out h, fun h => H1.out h, fun h => H2.out h, fun _ => rfl, fun h => H4.out h, fun h => H5.out h, fun h => H6.out h, fun h => H7.out h, fun h => H8.out h, fun h => H9.out h, fun h => H10.out h, fun h => H11.out h, fun h k => HNE.out h k, fun h => H12.out h, fun h => H13.out h⟩
          · have e3 := H3.out (hall ⟨3, .data⟩ (by simp) rfl)
            subst e3
            have x0 := HCS.out _ HGI.out
            clear hall
            go_simp
            exact ⟨HGI.out, u5, u6, u23, u24, u25, _, _, u28, u29, u30, u31, u32, b5, b6, c5, c6, rfl, fun h => H0.out h, fun h => H1.out h, fun h => H2.out h, fun h => H3.out h, fun _ => rfl, fun h => H5.out h, fun h => H6.out h, fun h => H7.out h, fun h => H8.out h, fun h => H9.out h, fun h => H10.out h, fun h => H11.out h, fun h k => HNE.out h k, fun h => ⟨(H12.out h).1, rfl⟩, fun h => H13.out h⟩
          · clear hall
            go_simp
            exact ⟨HGI.out, u5, u6, u23, u24, u25, u26, u27, _, u29, u30, u31, u32, b5, b6, c5, c6, rfl, fun h => H0.out h, fun h => H1.out h, fun h => H2.out h, fun h => H3.out h, fun h => H4.out h, fun _ => rfl, fun h => H6.out h, fun h => H7.out h, fun h => H8.out h, fun h => H9.out h, fun h => H10.out h, fun h => H11.out h, fun h k => HNE.out h k, fun h => H12.out h, fun h => H13.out h⟩
          · have e5 := H5.out (hall ⟨5, .data⟩ (by simp) rfl)
            subst e5
            have x1 := (HX2.out.grown HGI.out (by simp)).get 1
            clear hall
            go_simp
            exact ⟨HGI.out, u5, u6, u23, u24, u25, u26, u27, _, _, u30, u31, u32, b5, b6, c5, c6, rfl, fun h => H0.out h, fun h => H1.out h, fun h => H2.out h, fun h => H3.out h, fun h => H4.out h, fun h => H5.out h, fun _ => rfl, fun h => H7.out h, fun h => H8.out h, fun h => H9.out h, fun h => H10.out h, fun h => H11.out h, fun h k => HNE.out h k, fun h => H12.out h, fun h => H13.out h⟩
          · clear hall
            go_simp
            exact ⟨HGI.out, u5, u6, u23, u24, u25, u26, u27, u28, u29, _, u31, u32, b5, b6, c5, c6, rfl, fun h => H0.out h, fun h => H1.out h, fun h => H2.out h, fun h => H3.out h, fun h => H4.out h, fun h => H5.out h, fun h => H6.out h, fun _ => rfl, fun h => H8.out h, fun h => H9.out h, fun h => H10.out h, fun h => H11.out h, fun h k => HNE.out h k, fun h => H12.out h, fun h => H13.out h⟩
          · have e6 := H6.out (hall ⟨6, .data⟩ (by simp) rfl)
            have e7 := H7.out (hall ⟨7, .data⟩ (by simp) rfl)
            subst e6
            subst e7
            clear hall
            go_simp
            exact ⟨HGI.out, u5, u6, u23, u24, u25, u26, u27, u28, _, _, _, u32, b5, b6, c5, c6, rfl, fun h => H0.out h, fun h => H1.out h, fun h => H2.out h, fun h => H3.out h, fun h => H4.out h, fun h => H5.out h, fun h => H6.out h, fun h => H7.out h, fun _ => rfl, fun h => H9.out h, fun h => H10.out h, fun h => H11.out h, fun h k => HNE.out h k, fun h => H12.out h, fun h => H13.out h⟩
          · have e8 := H8.out (hall ⟨8, .data⟩ (by simp) rfl)
            subst e8
            have x0 := HCT.out _ HGI.out
            clear hall
            go_simp
            exact ⟨HGI.out, u5, u6, u23, u24, u25, u26, u27, u28, u29, u30, _, _, b5, b6, c5, c6, rfl, fun h => H0.out h, fun h => H1.out h, fun h => H2.out h, fun h => H3.out h, fun h => H4.out h, fun h => H5.out h, fun h => H6.out h, fun h => H7.out h, fun h => H8.out h, fun _ => rfl, fun h => H10.out h, fun h => H11.out h, fun h k => HNE.out h k, fun h => H12.out h, fun h => ⟨(H13.out h).1, rfl⟩⟩
          · clear hall
            go_simp
            have hg' := World.grownBy_alloc wi (.cells #[.int .i64 0] 3) none
            exact ⟨grown_alloc HGI.out _, _, u6, u23, u24, u25, u26, u27, u28, u29, u30, u31, u32, wi.heap.size, b6, _, c6, rfl, fun h => H0.out h, fun h => H1.out h, fun h => H2.out h, fun h => H3.out h, fun h => H4.out h, fun h => H5.out h, fun h => H6.out h, fun h => H7.out h, fun h => H8.out h, fun h => H9.out h, fun _ => ⟨rfl, HGI.out.size, Box.fresh _ _ _, fun hs => absurd (H12.out hs).1 (by rw [HF.out]; simp)⟩, fun h => ⟨(H11.out h).1, (H11.out h).2.1, (H11.out h).2.2.1.grown hg' (by simp), (H11.out h).2.2.2⟩, (fun _ k => by have := (H11.out k).2.2.1.small; omega), fun h => ⟨rfl, (H12.out h).2⟩, fun h => H13.out h⟩
          · clear hall
            go_simp
            have hg' := World.grownBy_alloc wi (.cells #[.int .i64 0] 3) none
            exact ⟨grown_alloc HGI.out _, u5, _, u23, u24, u25, u26, u27, u28, u29, u30, u31, u32, b5, wi.heap.size, c5, _, rfl, fun h => H0.out h, fun h => H1.out h, fun h => H2.out h, fun h => H3.out h, fun h => H4.out h, fun h => H5.out h, fun h => H6.out h, fun h => H7.out h, fun h => H8.out h, fun h => H9.out h, fun h => ⟨(H10.out h).1, (H10.out h).2.1, (H10.out h).2.2.1.grown hg' (by simp), (H10.out h).2.2.2⟩, fun _ => ⟨rfl, HGI.out.size, Box.fresh _ _ _, fun hs => absurd (H13.out hs).1 (by rw [HF.out]; simp)⟩, (fun h _ => by have := (H10.out h).2.2.1.small; omega), fun h => H12.out h, fun h => ⟨rfl, (H13.out h).2⟩⟩
          · have fa := hall ⟨10, .data⟩ (by simp) rfl
            have fl := hall ⟨4, .data⟩ (by simp) rfl
            obtain ⟨ea, hlb, hbx, _⟩ := H10.out fa
            have el := H4.out fl
            subst ea
            subst el
            have HBX := Lib.hid hbx
            have HLB := Lib.hid hlb
            have HFL := Lib.hid (And.intro fa fl)
            have x0 := hbx.get 0
            have x1 := hbx.free 0
            clear hall fa fl hbx hlb
            go_simp
            have hg' : wi.grownBy (wi.setCell ⟨b5, 0, none⟩ (.int .i64 y)) (some b5) := grown_put (grown_refl _ _) (.inl rfl) _
            exact ⟨grown_put HGI.out (.inr HLB.out) _, _, u6, u23, u24, u25, u26, _, u28, u29, u30, u31, u32, b5, b6, _, c6, rfl, fun h => H0.out h, fun h => H1.out h, fun h => H2.out h, fun h => H3.out h, fun _ => rfl, fun h => H5.out h, fun h => H6.out h, fun h => H7.out h, fun h => H8.out h, fun h => H9.out h, fun _ => ⟨rfl, HLB.out, HBX.out.put 0 _, fun _ => rfl⟩, fun h => ⟨(H11.out h).1, (H11.out h).2.1, (H11.out h).2.2.1.grown hg' (fun e => HNE.out HFL.out.1 h (Option.some.inj e).symm), (H11.out h).2.2.2⟩, fun h k => HNE.out h k, fun _ => HFL.out, fun h => H13.out h⟩
          · have fa := hall ⟨11, .data⟩ (by simp) rfl
            have fl := hall ⟨9, .data⟩ (by simp) rfl
            obtain ⟨ea, hlb, hbx, _⟩ := H11.out fa
            have el := H9.out fl
            subst ea
            subst el
            have HBX := Lib.hid hbx
            have HLB := Lib.hid hlb
            have HFL := Lib.hid (And.intro fa fl)
            have x0 := hbx.get 0
            have x1 := hbx.free 0
            clear hall fa fl hbx hlb
            go_simp
            have hg' : wi.grownBy (wi.setCell ⟨b6, 0, none⟩ (.int .i64 z)) (some b6) := grown_put (grown_refl _ _) (.inl rfl) _
            exact ⟨grown_put HGI.out (.inr HLB.out) _, u5, _, u23, u24, u25, u26, u27, u28, u29, u30, u31, _, b5, b6, c5, _, rfl, fun h => H0.out h, fun h => H1.out h, fun h => H2.out h, fun h => H3.out h, fun h => H4.out h, fun h => H5.out h, fun h => H6.out h, fun h => H7.out h, fun h => H8.out h, fun _ => rfl, fun h => ⟨(H10.out h).1, (H10.out h).2.1, (H10.out h).2.2.1.grown hg' (fun e => HNE.out h HFL.out.1 (Option.some.inj e)), (H10.out h).2.2.2⟩, fun _ => ⟨rfl, HLB.out, HBX.out.put 0 _, fun _ => rfl⟩, fun h k => HNE.out h k, fun h => H12.out h, fun _ => HFL.out⟩
        case fin3 =>
          intro f a wi hall hinv
          obtain ⟨hg, u5, u6, u23, u24, u25, u26, u27, u28, u29, u30, u31, u32, b5, b6, c5, c6, rfl, h0, h1, h2, h3, h4, h5, h6, h7, h8, h9, h10, h11, hne, h12, h13⟩ := hinv
          obtain ⟨e5, hb5, hB5, ec5⟩ := h10 (hall 10 (by simp))
          obtain ⟨e6, hb6, hB6, ec6⟩ := h11 (hall 11 (by simp))
          have ec5 := ec5 (hall 12 (by simp))
          have ec6 := ec6 (hall 13 (by simp))
          subst e5
          subst e6
          subst ec5
          subst ec6
          have HG3 := Lib.hid hg
          have HB5 := Lib.hid hB5
          have HB6 := Lib.hid hB6
          have HLB := Lib.hid (And.intro hb5 hb6)
          have HX3 := Lib.hid (HX2.out.grown hg (by simp))
          have HGW3 := Lib.hid (grown_join HG2.out hg (.inr (by simp)))
          clear hall hg hb5 hB5 hb6 hB6 h0 h1 h2 h3 h4 h5 h6 h7 h8 h9 h10 h11 hne h12 h13
          obtain ⟨w3, hw3⟩ : ∃ w3, w3 = wi := ⟨_, rfl⟩
          subst hw3
          clear ec5 ec6
          go_wp2_with fail
          refine region_inv (by kernel_rfl) (LinesInv4 w3 (fun u7 u33 u34 u35 u36 u37 u38 u39 u40 u41 u42 u43 => { tmps := #[.agg #[.slice (some ⟨bS, oS, none⟩) n' c, .slice (some ⟨bT, oT, none⟩) n' c', .int .i64 o], .int .i64 (k : Int), .pointer (some ⟨w.heap.size, 0, none⟩), undef, .nilFunc, .pointer (some ⟨b5, 0, none⟩), .pointer (some ⟨b6, 0, none⟩), u7, undef, .agg #[.slice (some ⟨bS, oS, none⟩) n' c, .slice (some ⟨bT, oT, none⟩) n' c', .int .i64 o], .bool true, .bool false, .bool false, .int .i64 (k : Int), .bool false, .bool false, .bool false, .int .i64 (k : Int), .pointer (some ⟨w.heap.size, 0, none⟩), .slice (some ⟨bS, oS, none⟩) n' c, .int .i64 (n' : Nat), .bool (decide (n' ≤ k)), .bool (decide (n' ≤ k)), u23, u24, u25, u26, u27, u28, u29, u30, u31, u32, u33, u34, u35, u36, u37, u38, u39, u40, u41, u42, u43, undef, undef, undef], defers := [] }) (n' - 1) (s.take k ++ s.drop (k + 1)) (t.take k ++ t.drop (k + 1)) (.pointer (some ⟨w.heap.size, 0, none⟩)) (.slice (some ⟨bS, oS, none⟩) n' c) (.int .i64 (k : Int)) (.pointer (some ⟨w.heap.size, 1, none⟩)) (.slice (some ⟨bT, oT, none⟩) n' c') (.int .i64 (k : Int)) (.pointer (some ⟨w.heap.size, 2, none⟩)) (.int .i64 o)) (by kernel_rfl) ?step4 ?fin4 ?start4
          case start4 =>
            exact ⟨grown_drew (grown_refl _ _), undef, undef, undef, undef, undef, undef, undef, undef, undef, undef, undef, undef, none, none, 0, 0, 0, undef, undef, undef, rfl, (fun h => by cases h), (fun h => by cases h), (fun h => by cases h), (fun h => by cases h), (fun h => by cases h), (fun h => by cases h), (fun h => by cases h), (fun h => by cases h), (fun h => by cases h), (fun h => by cases h), (fun h => by cases h), (fun h => by cases h), (fun h => by cases h), (fun h => by cases h)⟩
          case step4 =>
            intro f i op a wi hop hf hall hinv
            obtain ⟨hg, u7, u33, u34, u35, u36, u37, u38, u39, u40, u41, u42, u43, A8, B8, c8, d8, b7, p7, q7, r7, rfl, h0, h1, h2, h4, h5, h6, h8, h9, h3, h7, h10, h11, ha10, ha12⟩ := hinv
            have hi : i < 13 := (Array.getElem?_eq_some_iff.1 hop).1
            have HGI := Lib.hid hg
            have H0 := Lib.hid h0
            have H1 := Lib.hid h1
            have H2 := Lib.hid h2
            have H4 := Lib.hid h4
            have H5 := Lib.hid h5
            have H6 := Lib.hid h6
            have H8 := Lib.hid h8
            have H9 := Lib.hid h9
            have H3 := Lib.hid h3
            have H7 := Lib.hid h7
            have H10 := Lib.hid h10
            have H11 := Lib.hid h11
            have HA10 := Lib.hid ha10
            have HA12 := Lib.hid ha12
            have HF := Lib.hid hf
            have HGW := Lib.hid (grown_join HGW3.out hg (.inr (by simp)))
            clear hf hg h0 h1 h2 h4 h5 h6 h8 h9 h3 h7 h10 h11 ha10 ha12
            rcases thirteen hi with rfl | rfl | rfl | rfl | rfl | rfl | rfl | rfl | rfl | rfl | rfl | rfl | rfl <;> obtain rfl := Option.some.inj hop <;> refine ⟨by simp [Region.wanted], ?_⟩ <;> clear hop hi
            · clear hall
              go_simp
              exact ⟨HGI.out, u7, _, u34, u35, u36, u37, u38, u39, u40, u41, u42, u43, A8, B8, c8, d8, b7, p7, q7, r7, rfl, (fun _ => rfl), (fun h => H1.out h), (fun h => H2.out h), (fun h => H4.out h), (fun h => H5.out h), (fun h => H6.out h), (fun h => H8.out h), (fun h => H9.out h), (fun h => H3.out h), (fun h => H7.out h), (fun h => H10.out h), (fun h => H11.out h), (fun h => HA10.out h), (fun h => HA12.out h)⟩
            · have e0 := H0.out (hall ⟨0, .data⟩ (by simp) rfl)
              subst e0
              have x0 := (HX3.out.grown HGI.out (by simp)).get 0
              clear hall
              go_simp
              exact ⟨HGI.out, u7, _, _, u35, u36, u37, u38, u39, u40, u41, u42, u43, A8, B8, c8, d8, b7, p7, q7, r7, rfl, (fun h => H0.out h), (fun _ => rfl), (fun h => H2.out h), (fun h => H4.out h), (fun h => H5.out h), (fun h => H6.out h), (fun h => H8.out h), (fun h => H9.out h), (fun h => H3.out h), (fun h => H7.out h), (fun h => H10.out h), (fun h => H11.out h), (fun h => HA10.out h), (fun h => HA12.out h)⟩
            · clear hall
              go_simp
              exact ⟨HGI.out, u7, u33, u34, _, u36, u37, u38, u39, u40, u41, u42, u43, A8, B8, c8, d8, b7, p7, q7, r7, rfl, (fun h => H0.out h), (fun h => H1.out h), (fun _ => rfl), (fun h => H4.out h), (fun h => H5.out h), (fun h => H6.out h), (fun h => H8.out h), (fun h => H9.out h), (fun h => H3.out h), (fun h => H7.out h), (fun h => H10.out h), (fun h => H11.out h), (fun h => HA10.out h), (fun h => HA12.out h)⟩
            · have ea := H1.out (hall ⟨1, .data⟩ (by simp) rfl)
              have eb := H2.out (hall ⟨2, .data⟩ (by simp) rfl)
              subst ea
              subst eb
              clear hall
              go_simp
              refine (HWS.out wi HGW.out).mono ?_
              rintro e w' ⟨A9, c9, rfl, ho9, hg'⟩
              have HO9 := Lib.hid (ho9.lower HGI.out.size)
              go_simp
              exact ⟨grown_join HGI.out hg' (.inr (by simp)), u7, u33, _, _, _, u37, u38, u39, u40, u41, u42, u43, A9, B8, c9, d8, b7, p7, q7, r7, rfl, (fun h => H0.out h), (fun h => H1.out h), (fun h => H2.out h), (fun h => H4.out h), (fun h => H5.out h), (fun h => H6.out h), (fun h => H8.out h), (fun h => H9.out h), (fun _ => ⟨rfl, HO9.out⟩), (fun h => ⟨(H7.out h).1, (H7.out h).2.grow hg'⟩), (fun h => absurd (HA10.out h).1 (by rw [HF.out]; simp)), (fun h => ⟨(H11.out h).1, (H11.out h).2.1, (H11.out h).2.2.1.grown hg' (by simp), fun h12 => absurd (HA10.out (HA12.out h12).2).1 (by rw [HF.out]; simp)⟩), (fun h => ⟨rfl, (HA10.out h).2.1, (HA10.out h).2.2⟩), (fun h => HA12.out h)⟩
            · clear hall
              go_simp
              exact ⟨HGI.out, u7, u33, u34, u35, u36, _, u38, u39, u40, u41, u42, u43, A8, B8, c8, d8, b7, p7, q7, r7, rfl, (fun h => H0.out h), (fun h => H1.out h), (fun h => H2.out h), (fun _ => rfl), (fun h => H5.out h), (fun h => H6.out h), (fun h => H8.out h), (fun h => H9.out h), (fun h => H3.out h), (fun h => H7.out h), (fun h => H10.out h), (fun h => H11.out h), (fun h => HA10.out h), (fun h => HA12.out h)⟩
            · have e4 := H4.out (hall ⟨4, .data⟩ (by simp) rfl)
              subst e4
              have x1 := (HX3.out.grown HGI.out (by simp)).get 1
              clear hall
              go_simp
              exact ⟨HGI.out, u7, u33, u34, u35, u36, _, _, u39, u40, u41, u42, u43, A8, B8, c8, d8, b7, p7, q7, r7, rfl, (fun h => H0.out h), (fun h => H1.out h), (fun h => H2.out h), (fun h => H4.out h), (fun _ => rfl), (fun h => H6.out h), (fun h => H8.out h), (fun h => H9.out h), (fun h => H3.out h), (fun h => H7.out h), (fun h => H10.out h), (fun h => H11.out h), (fun h => HA10.out h), (fun h => HA12.out h)⟩
            · clear hall
              go_simp
              exact ⟨HGI.out, u7, u33, u34, u35, u36, u37, u38, _, u40, u41, u42, u43, A8, B8, c8, d8, b7, p7, q7, r7, rfl, (fun h => H0.out h), (fun h => H1.out h), (fun h => H2.out h), (fun h => H4.out h), (fun h => H5.out h), (fun _ => rfl), (fun h => H8.out h), (fun h => H9.out h), (fun h => H3.out h), (fun h => H7.out h), (fun h => H10.out h), (fun h => H11.out h), (fun h => HA10.out h), (fun h => HA12.out h)⟩
            · have ea := H5.out (hall ⟨5, .data⟩ (by simp) rfl)
              have eb := H6.out (hall ⟨6, .data⟩ (by simp) rfl)
              subst ea
              subst eb
              clear hall
              go_simp
              refine (HWT.out wi HGW.out).mono ?_
              rintro e w' ⟨A9, c9, rfl, ho9, hg'⟩
              have HO9 := Lib.hid (ho9.lower HGI.out.size)
              go_simp
              exact ⟨grown_join HGI.out hg' (.inr (by simp)), u7, u33, u34, u35, u36, u37, _, _, _, u41, u42, u43, A8, A9, c8, c9, b7, p7, q7, r7, rfl, (fun h => H0.out h), (fun h => H1.out h), (fun h => H2.out h), (fun h => H4.out h), (fun h => H5.out h), (fun h => H6.out h), (fun h => H8.out h), (fun h => H9.out h), (fun h => ⟨(H3.out h).1, (H3.out h).2.grow hg'⟩), (fun _ => ⟨rfl, HO9.out⟩), (fun h => absurd (HA10.out h).2.1 (by rw [HF.out]; simp)), (fun h => ⟨(H11.out h).1, (H11.out h).2.1, (H11.out h).2.2.1.grown hg' (by simp), fun h12 => absurd (HA10.out (HA12.out h12).2).2.1 (by rw [HF.out]; simp)⟩), (fun h => ⟨(HA10.out h).1, rfl, (HA10.out h).2.2⟩), (fun h => HA12.out h)⟩
            · clear hall
              go_simp
              exact ⟨HGI.out, u7, u33, u34, u35, u36, u37, u38, u39, u40, _, u42, u43, A8, B8, c8, d8, b7, p7, q7, r7, rfl, (fun h => H0.out h), (fun h => H1.out h), (fun h => H2.out h), (fun h => H4.out h), (fun h => H5.out h), (fun h => H6.out h), (fun _ => rfl), (fun h => H9.out h), (fun h => H3.out h), (fun h => H7.out h), (fun h => H10.out h), (fun h => H11.out h), (fun h => HA10.out h), (fun h => HA12.out h)⟩
            · have e8 := H8.out (hall ⟨8, .data⟩ (by simp) rfl)
              subst e8
              have x2 := (HX3.out.grown HGI.out (by simp)).get 2
              clear hall
              go_simp
              exact ⟨HGI.out, u7, u33, u34, u35, u36, u37, u38, u39, u40, _, _, u43, A8, B8, c8, d8, b7, p7, q7, r7, rfl, (fun h => H0.out h), (fun h => H1.out h), (fun h => H2.out h), (fun h => H4.out h), (fun h => H5.out h), (fun h => H6.out h), (fun h => H8.out h), (fun _ => rfl), (fun h => H3.out h), (fun h => H7.out h), (fun h => absurd (HA10.out h).2.2 (by rw [HF.out]; simp)), (fun h => ⟨(H11.out h).1, (H11.out h).2.1, (H11.out h).2.2.1, fun h12 => absurd (HA10.out (HA12.out h12).2).2.2 (by rw [HF.out]; simp)⟩), (fun h => ⟨(HA10.out h).1, (HA10.out h).2.1, rfl⟩), (fun h => HA12.out h)⟩
            · have f3 := hall ⟨3, .data⟩ (by simp) rfl
              have f7 := hall ⟨7, .data⟩ (by simp) rfl
              have f9 := hall ⟨9, .data⟩ (by simp) rfl
              have e9 := H9.out f9
              obtain ⟨e3, ho3⟩ := H3.out f3
              obtain ⟨e7, ho7⟩ := H7.out f7
              subst e9
              subst e3
              subst e7
              have HFL := Lib.hid (And.intro f3 (And.intro f7 f9))
              have HO3 := Lib.hid ho3
              have HO7 := Lib.hid ho7
              clear hall f3 f7 f9 ho3 ho7
              go_simp
              exact ⟨HGI.out, u7, u33, u34, u35, _, u37, u38, u39, _, u41, _, _, A8, B8, c8, d8, b7, p7, q7, r7, rfl, (fun h => H0.out h), (fun h => H1.out h), (fun h => H2.out h), (fun h => H4.out h), (fun h => H5.out h), (fun h => H6.out h), (fun h => H8.out h), (fun _ => rfl), (fun _ => ⟨rfl, HO3.out⟩), (fun _ => ⟨rfl, HO7.out⟩), (fun _ => rfl), (fun h => H11.out h), (fun _ => HFL.out), (fun h => ⟨(HA12.out h).1, rfl⟩)⟩
            · clear hall
              go_simp
              have hg' := World.grownBy_alloc wi (.cells #[.slice none 0 0, .slice none 0 0, .int .i64 0] 34) none
              exact ⟨grown_alloc HGI.out _, _, u33, u34, u35, u36, u37, u38, u39, u40, u41, u42, u43, A8, B8, c8, d8, wi.heap.size, _, _, _, rfl, (fun h => H0.out h), (fun h => H1.out h), (fun h => H2.out h), (fun h => H4.out h), (fun h => H5.out h), (fun h => H6.out h), (fun h => H8.out h), (fun h => H9.out h), (fun h => ⟨(H3.out h).1, (H3.out h).2.grow hg'⟩), (fun h => ⟨(H7.out h).1, (H7.out h).2.grow hg'⟩), (fun h => H10.out h), (fun _ => ⟨rfl, HGI.out.size, Box.fresh _ _ _, fun h12 => absurd (HA12.out h12).1 (by rw [HF.out]; simp)⟩), (fun h => HA10.out h), (fun h => ⟨rfl, (HA12.out h).2⟩)⟩
            · have f11 := hall ⟨11, .data⟩ (by simp) rfl
              have f10 := hall ⟨10, .data⟩ (by simp) rfl
              obtain ⟨f3, f7, f9⟩ := HA10.out f10
              have e10 := H10.out f10
              have e9 := H9.out f9
              obtain ⟨e3, ho3⟩ := H3.out f3
              obtain ⟨e7, ho7⟩ := H7.out f7
              obtain ⟨e11, hlb, hbx, _⟩ := H11.out f11
              subst e11
              subst e9
              subst e3
              subst e7
              subst e10
              have HFL := Lib.hid (And.intro f11 f10)
              have HFM := Lib.hid (And.intro f3 (And.intro f7 f9))
              have HO3 := Lib.hid ho3
              have HO7 := Lib.hid ho7
              have HBX := Lib.hid hbx
              have HLBX := Lib.hid hlb
              have x0 := hbx.get 0
              have x1 := hbx.get 1
              have x2 := hbx.get 2
              have y0 := hbx.free 0
              have y1 := hbx.free 1
              have y2 := hbx.free 2
              clear hall f11 f10 f3 f7 f9 ho3 ho7 hbx hlb
              go_simp
              have hg' : wi.grownBy (((wi.setCell ⟨b7, 0, none⟩ (.slice A8 (n' - 1) c8)).setCell ⟨b7, 1, none⟩ (.slice B8 (n' - 1) d8)).setCell ⟨b7, 2, none⟩ (.int .i64 o)) (some b7) := grown_put (grown_put (grown_put (grown_refl _ _) (.inl rfl) _) (.inl rfl) _) (.inl rfl) _
              exact ⟨grown_join HGI.out hg' (.inr fun x e => by injection e with e; subst e; exact HLBX.out), _, u33, u34, u35, _, u37, u38, u39, _, u41, _, _, A8, B8, c8, d8, b7, _, _, _, rfl, (fun h => H0.out h), (fun h => H1.out h), (fun h => H2.out h), (fun h => H4.out h), (fun h => H5.out h), (fun h => H6.out h), (fun h => H8.out h), (fun _ => rfl), (fun _ => ⟨rfl, own_far HO3.out hg' (.inr (own_view9 HO3.out HBX.out))⟩), (fun _ => ⟨rfl, own_far HO7.out hg' (.inr (own_view9 HO7.out HBX.out))⟩), (fun _ => rfl), (fun _ => ⟨rfl, HLBX.out, ((HBX.out.put 0 _).put 1 _).put 2 _, fun _ => ⟨rfl, rfl, rfl⟩⟩), (fun _ => HFM.out), (fun _ => HFL.out)⟩
          case fin4 =>
            intro f a wi hall hinv
            obtain ⟨hg, u7, u33, u34, u35, u36, u37, u38, u39, u40, u41, u42, u43, A8, B8, c8, d8, b7, p7, q7, r7, rfl, h0, h1, h2, h4, h5, h6, h8, h9, h3, h7, h10, h11, ha10, ha12⟩ := hinv
            obtain ⟨e3, hA⟩ := h3 (hall 3 (by simp))
            obtain ⟨e7, hB⟩ := h7 (hall 7 (by simp))
            have e9 := h9 (hall 9 (by simp))
            obtain ⟨e11, hb7, hB7, epq⟩ := h11 (hall 11 (by simp))
            obtain ⟨ep, eq, er⟩ := epq (hall 12 (by simp))
            subst e3
            subst e7
            subst e9
            subst e11
            subst ep
            subst eq
            subst er
            have HG4 := Lib.hid hg
            have HB7 := Lib.hid hB7
            have HOA := Lib.hid hA
            have HOB := Lib.hid hB
            have HGW4 := Lib.hid (grown_join HGW3.out hg (.inr (by simp)))
            have HOF := Lib.hid (own9_offsets A8 B8 (n' - 1) c8 (n' - 1) d8 (s.take k ++ s.drop (k + 1)) (t.take k ++ t.drop (k + 1)) o wi hA.numsF hB.numsF (by omega) (by omega))
            have x0 := hB7.get 0
            have x1 := hB7.get 1
            have x2 := hB7.get 2
            clear hall hg hA hB hb7 hB7 epq h0 h1 h2 h3 h4 h5 h6 h7 h8 h9 h10 h11 ha10 ha12
            go_wp2_with fail
            refine HOF.out.mono ?_
            rintro e w5 ⟨b, zs, rfl, hb, hB, hZ, hg5⟩
            have HBB := Lib.hid hB
            have HZZ := Lib.hid hZ
            have HLBB := Lib.hid hb
            have HG5 := Lib.hid hg5
            clear hb hB hZ hg5 x0 x1 x2
            go_wp2_with fail
            go_ret
            have hga := World.grownBy_alloc w5 (.cells #[.func (.func 45) #[] #[.pointer (some ⟨b, 0, none⟩)]] 52) none
            have hg35 := grown_join HG4.out (grown_join HG5.out hga (.inr (by simp))) (.inr (by simp))
            have s2 := HG2.out.size
            have s4 := HGW4.out.size
            have s5 := HG5.out.size
            have hlb := HLB.out
            have hlbb := HLBB.out
            exact .inr ⟨HA.out, _, _, _, rfl, w5.heap.size, b5, b6, b, zs, rfl, rfl, rfl, Box.fresh _ _ _, HB5.out.grown hg35 (by simp), HB6.out.grown hg35 (by simp), HBB.out.grown hga (by simp), HZZ.out, by omega, by omega, by omega, by omega, grown_join HGW4.out (grown_join HG5.out hga (.inr (by simp))) (.inr (by simp))⟩
end Go.Proofs.Ytdjenakmdjiknaa
end

/-! Layer 9, the program's own: the function that Lines hands back. -/
section
namespace Go.Proofs.Ytdjenakmdjiknaa
open Go.ChangeShapes Go.WideShapes Go.ChangeAt Go.RowKit Go.Shelf
set_option linter.unusedVariables false
set_option maxRecDepth 100000
attribute [local go_sem] Oper.semAt_some

theorem one_nums {W : World} {g : Nat} {y : Int} (h : Box W g 3 #[.int .i64 y]) : NumsF W (some ⟨g, 0, none⟩) 1 1 [y] := ⟨ints_one (h.get 0), Nat.le_refl _, by simp⟩
set_option maxHeartbeats 4000000 in
theorem own9_lines2 (n : Nat) (hn : 6 ≤ n) (l b b5 b6 b8 : Nat) (z5 : WalkS) (u : Vw) (y z : Int) (X : Nat → Prop) (J Jx : List LineZ → World → Prop) (W : World) (hJ : OwnAll W.heap.size J) (hJx : OwnAll W.heap.size Jx)
    (hY : ∀ pre x W1, J pre W1 → LineAt y z x W1 → pre.length < (colL u).length → YieldAt Fence.wide (n - 1) Try.prog l (encZ x) W1 fun e W' => (e = .returned (.bool true) ∧ J (pre ++ [x]) W' ∧ KeepX X W1 W' ∧ KeepsFrom W.heap.size W1 W') ∨ (e = .returned (.bool false) ∧ Jx (pre ++ [x]) W' ∧ KeepsFrom W.heap.size W1 W'))
    (hB8 : Box W b8 52 #[.func (.func 45) #[] #[.pointer (some ⟨b, 0, none⟩)]]) (hB5 : Box W b5 3 #[.int .i64 y]) (hB6 : Box W b6 3 #[.int .i64 z]) (hB : WalkB W b 62 [] z5) (hZ5 : WalkOf z5 u 0 false) (hX : ∀ x, X x → x < W.heap.size ∧ x ≠ b5 ∧ x ≠ b6) (h0 : J [] W) :
    CallsIn Fence.wide n Try.prog 29 #[.func (.yield l) #[] #[], .pointer (some ⟨b8, 0, none⟩), .pointer (some ⟨b5, 0, none⟩), .pointer (some ⟨b6, 0, none⟩)] W fun e W' => (∃ x, e = .returned x) ∧
      ((∃ xs, xs.map LineZ.off = colL u ∧ J xs W') ∨ ∃ pre, (∃ k, k ≤ (colL u).length ∧ pre.map LineZ.off = (colL u).take k) ∧ Jx pre W') := by
  have HJ := Lib.hid hJ
  have HJX := Lib.hid hJx
  have HY := Lib.hid hY
  have HZ5 := Lib.hid hZ5
  have HX := Lib.hid hX
  have HN := Lib.hid hn
  obtain ⟨w1, hw1⟩ : ∃ w1, w1 = W.alloc (.cells #[.func (.yield l) #[] #[]] 58) := ⟨_, rfl⟩
  have HG1 := Lib.hid (show W.grownBy w1 none by rw [hw1]; exact World.grownBy_alloc _ _ _)
  have HBY1 := Lib.hid (show Box w1 W.heap.size 58 #[.func (.yield l) #[] #[]] by rw [hw1]; exact Box.fresh _ _ _)
  have HB81 := Lib.hid (hB8.grown HG1.out (by simp))
  have HB51 := Lib.hid (hB5.grown HG1.out (by simp))
  have HB61 := Lib.hid (hB6.grown HG1.out (by simp))
  have HB1 := Lib.hid (hB.grown HG1.out (by simp))
  have HSM := Lib.hid (And.intro hB5.small hB6.small)
  have HS1 := Lib.hid (show w1.heap.size = W.heap.size + 1 by rw [hw1]; simp)
  have HW1 := Lib.hid hw1
  have HJ1 := Lib.hid (HJ.out [] W w1 none h0 HG1.out (fun r e => by cases e))
  clear hJ hJx hY hB5 hB6 hB8 hB hZ5 hX hw1 h0
  refine callsIn_of_wp_marks Try.func29 rfl trivial ?_ rfl
  simp only [Try.ntmps29, List.size_toArray, List.length_cons, List.length_nil, Nat.reduceAdd, Nat.reduceSub, Array.replicate_succ, Array.replicate_zero, List.push_toArray, List.append_toArray, List.nil_append, List.cons_append]
  refine wpIn_wide.2 ?_
  go_upto_region 1 with fail
  rw [← HW1.out]
  have x0 := HB81.out.get 0
  go_wp2_with fail
  clear x0
  refine (wpIn_wide (n := n)).1 ?_
  refine range_told (by omega) (gf := 45) (lb := #[.pointer (some ⟨b, 0, none⟩)]) rfl plain_off (offsets_own (n - 1) (by have := HN.out; omega) b z5 u X w1 HB1.out HZ5.out (fun x hx => by have h1 := HX.out x hx; have h2 := HS1.out; omega)) (fun h1 h2 => keepX_t h1 h2) (fun W l o o' h1 h2 h3 h4 => keepX_b W l o o' h1 h2 h3 h4) (fun _ _ _ _ _ _ _ _ => trivial) (fun _ => rfl)
    (fun pre W' => (∃ zs, zs.map LineZ.off = pre ∧ J zs W') ∧ Box W' W.heap.size 58 #[.func (.yield l) #[] #[]] ∧ Box W' b5 3 #[.int .i64 y] ∧ Box W' b6 3 #[.int .i64 z])
    (fun c pre W' => c = .ret ∧ ∃ zs, zs.map LineZ.off = pre ∧ Jx zs W')
    (fun pre Wa Wb row hs hg hr => ⟨by
      obtain ⟨zs, h1, h2⟩ := hs.1
      exact ⟨zs, h1, HJ.out _ Wa Wb row h2 hg (fun r e => ⟨by have := (hr r e).1; have := HS1.out; omega, trivial⟩)⟩, hs.2.1.grown hg (fun e => by have := (hr _ e.symm).1; have := HS1.out; omega), hs.2.2.1.grown hg (fun e => by have := (hr _ e.symm).1; have := HS1.out; have := HSM.out; omega), hs.2.2.2.grown hg (fun e => by have := (hr _ e.symm).1; have := HS1.out; have := HSM.out; omega)⟩)
    (fun c pre Wa Wb row hs hg hr => ⟨hs.1, by
      obtain ⟨zs, h1, h2⟩ := hs.2
      exact ⟨zs, h1, HJX.out _ Wa Wb row h2 hg (fun r e => ⟨by have := (hr r e).1; have := HS1.out; omega, trivial⟩)⟩⟩) ⟨⟨[], rfl, HJ1.out⟩, HBY1.out, HB51.out, HB61.out⟩
    (fun x => { tmps := #[.func (.yield l) #[] #[], .pointer (some ⟨b8, 0, none⟩), .pointer (some ⟨b5, 0, none⟩), .pointer (some ⟨b6, 0, none⟩), .pointer (some ⟨W.heap.size, 0, none⟩), .int .i64 x, .func (.func 45) #[] #[.pointer (some ⟨b, 0, none⟩)], .int .i64 x, undef, undef, undef, undef, undef, undef, undef, undef, undef], defers := [] }) ?assign ?body ?done ?stop
  case assign =>
    intro l2 x W2 K hK
    dsimp only [enc1]
    gi_wp2
    exact hK
  case body =>
    rintro l2 pre x W2 ⟨⟨zs, hzs, hj⟩, hby, hb5, hb6⟩ _ hlt
    obtain ⟨W3, hW3⟩ : ∃ W3, W3 = (W2.alloc (.cells #[.int .i64 y] 3)).alloc (.cells #[.int .i64 z] 3) := ⟨_, rfl⟩
    obtain ⟨hp, hq, hg3⟩ := boxes9 W2 3 3 #[.int .i64 y] #[.int .i64 z]
    rw [← hW3] at hp hq hg3
    obtain ⟨fn, tmps, assign, body, hy, hR⟩ := HY.out zs ⟨some ⟨W2.heap.size, 0, none⟩, 1, some ⟨W2.heap.size + 1, 0, none⟩, 1, x⟩ W3 (HJ.out _ _ W3 none hj hg3 (fun r e => by cases e)) ⟨one_nums hp, one_nums hq, by omega, by omega⟩ (by rw [← hzs, List.length_map] at hlt; exact hlt)
    dsimp only [encZ] at hy
    have HMP := Lib.hid (show (zs ++ [(⟨some ⟨W2.heap.size, 0, none⟩, 1, some ⟨W2.heap.size + 1, 0, none⟩, 1, x⟩ : LineZ)]).map LineZ.off = pre ++ [x] by rw [List.map_append, hzs]; rfl)
    have HG3 := Lib.hid hg3
    have HO3 := Lib.hid (show KeepsOthers W2 W3 by rw [hW3]; exact (KeepsOthers.alloc _ _).trans (KeepsOthers.alloc _ _))
    have HBY := Lib.hid (hby.grown hg3 (by simp))
    have HB53 := Lib.hid (hb5.grown hg3 (by simp))
    have HB63 := Lib.hid (hb6.grown hg3 (by simp))
    have hn2 : 1 ≤ n - 1 - 1 := by have := HN.out; omega
    have x0 := hby.get 0
    have x1 := hb5.get 0
    have x2 := hb6.get 0
    have x3 := (hb6.alloc (.cells #[.int .i64 y] 3)).get 0
    rw [hW3] at hy
    have HW3 := Lib.hid hW3
    clear hby hb5 hb6 hp hq hg3 hj hlt hzs hW3
    gi_wp2
    rw [← HW3.out]
    have HRR := Lib.hid hR
    refine (round_wide HRR.out).mono ?_
    clear hy hR x0 x1 x2 x3
    rintro e W4 (⟨rfl, hJ3, hk, hkf⟩ | ⟨rfl, hJx3, hkf⟩)
    · have HJ5 := Lib.hid hJ3
      have HK5 := Lib.hid hk
      have HKF := Lib.hid hkf
      clear hJ3 hk hkf
      gi_wp2
      have hs1 := HS1.out
      have hsm := HSM.out
      have hx1 : ¬ X W.heap.size := fun h => by have := HX.out _ h; omega
      have hx2 : ¬ X b5 := fun h => (HX.out _ h).2.1 rfl
      have hx3 : ¬ X b6 := fun h => (HX.out _ h).2.2 rfl
      exact ⟨(HO3.out.from _).trans (keeps_less HKF.out (by omega)), keepX_t (keepX_grown HG3.out) HK5.out, ⟨_, HMP.out, HJ5.out⟩, HK5.out.2 _ _ HBY.out hx1 (.inl rfl), HK5.out.2 _ _ HB53.out hx2 (.inl rfl), HK5.out.2 _ _ HB63.out hx3 (.inl rfl)⟩
    · have HJ5 := Lib.hid hJx3
      have HKF := Lib.hid hkf
      clear hJx3 hkf
      gi_wp2
      have hs1 := HS1.out
      exact ⟨(HO3.out.from _).trans (keeps_less HKF.out (by omega)), rfl, _, HMP.out, HJ5.out⟩
  case done =>
    rintro D xs W2 hD rfl ⟨⟨zs, hzs, hj⟩, hby, hb5, hb6⟩ hK
    have HZS := Lib.hid hzs
    have HJ5 := Lib.hid hj
    have HKD := Lib.hid hK
    have HDD := Lib.hid hD
    clear hj hby hb5 hb6 hK hzs
    go_wp2_with fail
    have hs1 := HS1.out
    have hdd := HDD.out
    refine ⟨by simp, .inl ⟨_, _, rfl, run_takeDeferred HKD.out, ?_⟩⟩
    exact ⟨_, results_none rfl _ _ _, ⟨_, rfl⟩, .inl ⟨zs, HZS.out, OwnAll.put HJ.out _ HJ5.out (by omega)⟩⟩
  case stop =>
    rintro D c pre W2 hD ⟨k, hk, rfl⟩ ⟨rfl, zs, hzs, hjx⟩ hK
    have HZS := Lib.hid hzs
    have HJ5 := Lib.hid hjx
    have HKD := Lib.hid hK
    have HDD := Lib.hid hD
    have HKK := Lib.hid hk
    clear hjx hK hzs
    gi_wp2
    have hs1 := HS1.out
    have hdd := HDD.out
    refine ⟨by simp, .inl ⟨_, _, rfl, run_takeDeferred HKD.out, ?_⟩⟩
    exact ⟨_, results_none rfl _ _ _, ⟨_, rfl⟩, .inr ⟨zs, ⟨k, HKK.out, HZS.out⟩, OwnAll.put HJX.out _ HJ5.out (by omega)⟩⟩
theorem plain_lines2 (args : Array Value) (W : World) : (callFunc 29 args).run Try.prog W = .ok (.enter 29 args) W := enters_of Try.func29 (by kernel_rfl) rfl args W
theorem own9_lines (A A' : Option Addr) (n c n' c' : Nat) (s t : List Int) (o i : Int) (w : World) (h : NumsF w A n c s) (h' : NumsF w A' n' c' t) (hn : n ≤ 1048576) (hn' : n' ≤ 1048576) (hi : I64 i) (Away : Nat → Prop) :
    Calls Try.prog 9 #[.agg #[.slice A n c, .slice A' n' c', .int .i64 o], .int .i64 i] w (SeqLines ⟨s, t, o⟩ i Away w) := by
  refine (own9_linesF A A' n c n' c' s t o i w h h' hn hn' hi).mono ?_
  rintro e w' (⟨hno, rfl, hg⟩ | ⟨hyes, x8, x5, x6, rfl, b8, b5, b6, b, zs, rfl, rfl, rfl, hB8, hB5, hB6, hB, hZ, l8, l5, l6, lb, hg⟩)
  · exact lines1_is (lines_no hno) hg
  · unfold SeqLines
    rw [lines_yes hyes]
    refine ⟨hg, _, _, rfl, plain_lines2, fun N W X hN hW hX l J Jx W2 hW2 hJ hJx hY h0 => ?_⟩
    have hgw := grown_join hW (grown_of_below hW2) (.inr (by simp))
    exact own9_lines2 N hN l b b5 b6 b8 zs _ _ _ X J Jx W2 hJ hJx hY (hB8.grown hgw (by simp)) (hB5.grown hgw (by simp)) (hB6.grown hgw (by simp)) (hB.grown hgw (by simp)) hZ (fun x hx => by have h1 := (hX x hx).1; have h2 := hg.size; have h3 := hgw.size; omega) h0
end Go.Proofs.Ytdjenakmdjiknaa
end

/-! Layer 9: what is asked of the program's own Lines is so. -/
section
namespace Go.Proofs.Ytdjenakmdjiknaa
open Go.ChangeShapes Go.WideShapes Go.ChangeAt Go.RowKit Go.Shelf
set_option linter.unusedVariables false
set_option maxRecDepth 100000

theorem lsays9 : LinesSay where
  lines := fun A n c A' n' c' v i w h ho hi => own9_lines A A' n c n' c' v.sh v.st v.off i w h.1 h.2.1 h.2.2.1 h.2.2.2 hi _
end Go.Proofs.Ytdjenakmdjiknaa
end

/-! OdoCollects holds for every input: the cells of any view are gathered in their order, and line by line. Conditions: none beside the given row's own. -/
section
namespace Go.Proofs.Ytdjenakmdjiknaa
open Go.ChangeShapes Go.WideShapes Go.ChangeAt Go.RowKit
set_option linter.unusedVariables false
set_option maxRecDepth 100000

namespace odoCollects
theorem lifted (os : Os) (started : os.Started) (H : Type) (enc : TypeId × Value → H) :
    ReturnsInHanded {} Try.checked os 3 .any (Rows.odoCollectsSpec.pre6 enc Try.prog Try.f3 Rows.odoCollectsRow.domain false) (Rows.odoCollectsSpec.post enc Try.prog Try.f3 false true false false) := by
  refine Frame.lift (C := Try.checked) (B := 4) Frame.own started (by kernel_rfl) Try.func3 Frame.laidOut (by kernel_rfl) rfl Try.underlying4 ?_
    (ChangeSpec.witness6 (enc := enc) (C := Try.checked) false ⟨#[], #[.agg #[.slice none 0 0, .slice none 0 0, .int .i64 0], .int .i64 0], []⟩ 8 (by kernel_rfl) (by kernel_rfl) (by kernel_rfl) (by kernel_rfl)) ?_
  · exact ⟨rfl, fun H ds h => by
      rw [Try.params3] at h
      match ds, h with
      | [_, _], _ => exact ⟨rfl, rfl, rfl⟩⟩
  · intro W base args ds p hval hA hlt hsz
    rw [Try.params3] at hA hval
    obtain ⟨v0, vs0, d0, ds0, p0, q0, hargs, rfl, rfl, h0, r0⟩ := trodAll_cons hA
    obtain ⟨v1, vs1, d1, ds1, p1, q1, rfl, rfl, rfl, h1, r1⟩ := trodAll_cons r0
    obtain ⟨rfl, rfl, rfl⟩ := trodAll_nil r1
    obtain rfl : args = #[v0, v1] := by cases args; simp_all
    obtain ⟨A0, n0, c0, B0, m0, d0, s0, t0, o0, rfl, hs0, ht0, ho0⟩ := open_View (hval 0 _ v0 rfl rfl) h0
    obtain ⟨a1, rfl, rfl, rfl, w1⟩ := open_int Try.underlying3 (hval 1 _ v1 rfl rfl) h1
    exact odoCollects_walk vsays9 osays9 lsays9 A0 B0 n0 c0 m0 d0 s0 t0 o0 a1 W hs0 ht0 ho0 (i64_of_wf w1)
theorem over : Rows.odoCollectsRow.holds Try.pinned (OpenSpec.ofChange Rows.odoCollectsSpec) :=
  OpenClaim.holds_of_wide 3 Try.f3 rfl rfl rfl rfl rfl rfl rfl ⟨rfl, rfl, rfl, rfl, rfl⟩ rfl rfl rfl rfl rfl (by kernel_rfl) Try.func3 (by kernel_rfl)
    (of_decide_eq_true (by kernel_rfl)) (by unfold Func.isWrapper; first | (rw [if_pos (by decide +kernel)]; kernel_rfl) | (rw [if_neg (by decide +kernel)]; exact ⟨rfl, rfl⟩))
    (fun os started H enc _ => lifted os started H enc)
/-- THE STATEMENT -/
theorem proved : Rows.OdoCollectsSaid := over
end odoCollects
end Go.Proofs.Ytdjenakmdjiknaa
end
