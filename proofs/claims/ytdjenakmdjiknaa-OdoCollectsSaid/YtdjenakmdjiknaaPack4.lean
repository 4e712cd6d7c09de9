/-
  Texts of this claim, one behind the other.
-/
import Derived.Deep.RegionHeld3
import Derived.Deep.AppendLies
import Derived.Deep.RegionLaw
import Derived.RangeFuncFrom
import Derived.RangeFuncNested
import Derived.RangeFuncBound
import Derived.RangeFuncCalls
import Derived.RangeFuncLeaves
import Derived.Test.YtdjenakmdjiknaaPack1
import Derived.Test.YtdjenakmdjiknaaPack2
import Derived.Test.YtdjenakmdjiknaaPack3

/-! Layer 8: the law package's ints, light, Own. -/
section
namespace Go.Proofs.Ytdjenakmdjiknaa
open Go.ChangeShapes Go.WideShapes Go.ChangeAt Go.RowKit
set_option linter.unusedVariables false
set_option maxRecDepth 100000

theorem ints_eq8 {l l' : List Int} (hl : l.length = l'.length) (h : ∀ i, i < l.length → l.getD i 0 = l'.getD i 0) : l = l' := by
  apply List.ext_getElem hl
  intro i h1 h2
  have := h i h1
  simpa [List.getD, h1, h2] using this
def lightB (v : Vw) (most : Int) : Bool := decide (v.sh.length ≤ 20 ∧ v.st.length ≤ 20) && (!full v.sh || decide (cellsV v ≤ most))
theorem boxes8b (w : World) (t t' : TypeId) (a z : Array Value) : Box ((w.alloc (.cells a t)).alloc (.cells z t')) w.heap.size t a ∧ Box ((w.alloc (.cells a t)).alloc (.cells z t')) (w.heap.size + 1) t' z ∧ w.grownBy ((w.alloc (.cells a t)).alloc (.cells z t')) none :=
  ⟨(Box.fresh w t a).alloc _, by have := Box.fresh (w.alloc (.cells a t)) t' z; rw [show (w.alloc (.cells a t)).heap.size = w.heap.size + 1 by simp] at this; exact this, grown_alloc (World.grownBy_alloc w _ none) _⟩
set_option maxHeartbeats 2000000 in
theorem own8_any (A A' : Option Addr) (n c n' c' : Nat) (o : Int) (w : World) :
    Calls Try.prog 10 #[.agg #[.slice A n c, .slice A' n' c', .int .i64 o]] w (TellG (.agg #[.slice A n c, .slice A' n' c', .int .i64 o]) w) := by
  obtain ⟨w1, hw1⟩ : ∃ w1, w1 = (w.alloc (.cells #[.slice A n c, .slice A' n' c', .int .i64 o] 24)).alloc (.cells #[.slice none 0 0, .slice none 0 0, .int .i64 0] 34) := ⟨_, rfl⟩
  have hb := boxes8b w 24 34 #[.slice A n c, .slice A' n' c', .int .i64 o] #[.slice none 0 0, .slice none 0 0, .int .i64 0]
  rw [← hw1] at hb
  obtain ⟨hx, hy, hg1⟩ := hb
  have HX := Lib.hid hx
  have HG1 := Lib.hid hg1
  have HW1 := Lib.hid hw1
  obtain ⟨q0, q1, q2, f0, f1, f2, d0, d1, d2⟩ := hy.three8 (.slice A n c) (.slice A' n' c') (.int .i64 o)
  have HG2 := Lib.hid (grown_three hg1 (b := w.heap.size + 1) (by omega) (.slice A n c) (.slice A' n' c') (.int .i64 o))
  clear hw1 hx hy hg1
  go_enter Try.func10, Try.ntmps10
  go_upto_region 1 with fail
  rw [← HW1.out]
  have x0 := HX.out.get 0
  have x1 := HX.out.get 1
  have x2 := HX.out.get 2
  go_wp2_with fail
  exact bodyPost_ret (v := .agg #[.slice A n c, .slice A' n' c', .int .i64 o]) (by simp [results, Try.results10, go_sem, d0, d1, d2]) rfl ⟨rfl, HG2.out⟩
end Go.Proofs.Ytdjenakmdjiknaa
end

/-! Layer 9: the law package's ints, light. -/
section
namespace Go.Proofs.Ytdjenakmdjiknaa
open Go.ChangeShapes Go.WideShapes Go.ChangeAt Go.RowKit
set_option linter.unusedVariables false
set_option maxRecDepth 100000

theorem ints_eq9 {l l' : List Int} (hl : l.length = l'.length) (h : ∀ i, i < l.length → l.getD i 0 = l'.getD i 0) : l = l' := by
  apply List.ext_getElem hl
  intro i h1 h2
  have := h i h1
  simpa [List.getD, h1, h2] using this
set_option maxHeartbeats 1000000 in
theorem ints9_any (A A' : Option Addr) (k k' c c' : Nat) (l l' : List Int) (B B' : Nat) (w : World) (h : Nums w B A k l) (h' : Nums w B' A' k' l') (hk : k ≤ 1048576) (hk' : k' ≤ 1048576) :
    Calls Try.prog 11 #[.slice A k c, .slice A' k' c'] w (ToldV (.bool (decide (l = l'))) w) := by
  have H := Lib.hid h
  have H' := Lib.hid h'
  have HL := Lib.hid h.1
  have HL' := Lib.hid h'.1
  clear h h'
  by_cases hnn : k = k'
  · subst hnn
    go_enter Try.func11, Try.ntmps11
    go_wp2
    go_loopw [5] (fun i wr => ∃ x m : Nat, x ≤ k ∧ i = .int .i64 x ∧ (∀ j, j < x → l.getD j 0 = l'.getD j 0) ∧ wr = w.drewN m) (fun i _ => k - (intOf i).toNat)
    case atStart => exact ⟨0, 0, by omega, rfl, fun i hi => by omega, rfl⟩
    case round =>
      obtain ⟨x, m, hx, rfl, hq, hwr⟩ := hrel
      have HQ := Lib.hid hq
      clear hq
      by_cases hlt : x < k
      · obtain ⟨b, off, rfl, _, hc⟩ := (H.out.drewN m).2.at_ hlt
        obtain ⟨b', off', rfl, _, hc'⟩ := (H'.out.drewN m).2.at_ hlt
        rw [← hwr] at hc hc'
        have HW := Lib.hid hwr
        clear hwr
        generalize h1 : l.getD x 0 = v at *
        generalize h2 : l'.getD x 0 = v' at *
        have H1 := Lib.hid h1
        have H2 := Lib.hid h2
        clear h1 h2
        by_cases he : v = v'
        · subst he
          have hb : (v != v) = false := by simp
          go_wp2
          go_quiet (fail)
          go_wp2
          go_roundw
          case rel => exact ⟨x + 1, _, by omega, by go_num, fun j hj => by
            by_cases hjx : j = x
            · subst hjx; rw [H1.out, H2.out]
            · exact HQ.out j (by omega), by rw [HW.out, World.drewN_drewN]⟩
          case measure => simp [intOf]; omega
        · have hb : (v != v') = true := by simp; omega
          have HE := Lib.hid he
          clear he
          go_wp2
          go_quiet (fail)
          go_wp2
          go_ret
          rw [HW.out, World.drewN_drewN]
          refine toldV_eq (congrArg Value.bool (decide_eq_false fun hh => HE.out ?_)) w _
          rw [← H1.out, ← H2.out, hh]
      · obtain rfl : k = x := by omega
        subst hwr
        go_wp2
        go_ret
        exact toldV_eq (congrArg Value.bool (decide_eq_true (ints_eq9 (by rw [HL.out, HL'.out]) fun i hi => HQ.out i (by rw [HL.out] at hi; exact hi)))) w m
  · have hne : ((k : Int) != (k' : Int)) = true := by simp; omega
    have HNN := Lib.hid hnn
    clear hnn
    go_enter Try.func11, Try.ntmps11
    go_wp2
    go_ret
    refine toldV_eq (congrArg Value.bool (decide_eq_false fun hh => HNN.out ?_)) w 0
    rw [← HL.out, ← HL'.out, hh]
set_option maxHeartbeats 2000000 in
theorem light9_any (A A' : Option Addr) (n c n' c' : Nat) (s t : List Int) (o : Int) (w : World) (h : NumsF w A n c s) (h' : NumsF w A' n' c' t) :
    Calls Try.prog 6 #[.agg #[.slice A n c, .slice A' n' c', .int .i64 o]] w (TellG (.bool (lightB ⟨s, t, o⟩ 400)) w) := by
  have HSI := Lib.hid (fun w' (hg : w.grownBy w' none) (hn : n ≤ 1048576) => ref7Size_any A n c _ s 1048576 w' (h.1.grow hg) hn)
  have HL := Lib.hid h.len
  have HL' := Lib.hid h'.len
  have HLB := Lib.hid (show ∀ a b d, decide (s.length ≤ 20 ∧ t.length ≤ 20) = a → full s = b → decide (sizeV s 1048576 ≤ 400) = d → lightB ⟨s, t, o⟩ 400 = (a && (!b || d)) from fun a b d ha hb hd => by unfold lightB; rw [ha, hb, ← hd]; rfl)
  obtain ⟨w1, hw1⟩ : ∃ w1, w1 = w.alloc (.cells #[.slice A n c, .slice A' n' c', .int .i64 o] 24) := ⟨_, rfl⟩
  have hb := box8 w 24 #[.slice A n c, .slice A' n' c', .int .i64 o]
  rw [← hw1] at hb
  obtain ⟨hx, hg1⟩ := hb
  have HX := Lib.hid hx
  have HG1 := Lib.hid hg1
  have HW1 := Lib.hid hw1
  have HFU := Lib.hid (show sizeB s 1048576 = full s from rfl)
  clear h h' hw1 hx hg1
  go_enter Try.func6, Try.ntmps6
  go_upto_region 1 with fail
  rw [← HW1.out]
  have x0 := HX.out.get 0
  have x1 := HX.out.get 1
  by_cases h1 : 20 < n
  · have d1 : decide ((20 : Int) < (n : Int)) = true := by simp; omega
    have d1' : decide (20 < n) = true := decide_eq_true h1
    have HF := Lib.hid (show lightB ⟨s, t, o⟩ 400 = false by rw [HLB.out _ _ _ (decide_eq_false (by have := HL.out; omega)) rfl rfl]; rfl)
    clear h1
    go_wp2_with fail
    go_ret
    exact tellG_eq (by rw [HF.out]; rfl) HG1.out
  · have d1 : decide ((20 : Int) < (n : Int)) = false := by simp; omega
    have d1' : decide (20 < n) = false := decide_eq_false h1
    by_cases h2 : 20 < n'
    · have d2 : decide ((20 : Int) < (n' : Int)) = true := by simp; omega
      have d2' : decide (20 < n') = true := decide_eq_true h2
      have HF := Lib.hid (show lightB ⟨s, t, o⟩ 400 = false by rw [HLB.out _ _ _ (decide_eq_false (by have := HL'.out; omega)) rfl rfl]; rfl)
      clear h1 h2
      go_wp2_with fail
      go_ret
      exact tellG_eq (by rw [HF.out]; rfl) HG1.out
    · have d2 : decide ((20 : Int) < (n' : Int)) = false := by simp; omega
      have d2' : decide (20 < n') = false := decide_eq_false h2
      have HN := Lib.hid (show n ≤ 1048576 by omega)
      have HLC := Lib.hid (show ∀ b d, full s = b → decide (sizeV s 1048576 ≤ 400) = d → lightB ⟨s, t, o⟩ 400 = (!b || d) from fun b d hb hd => by rw [HLB.out true b d (decide_eq_true (by have := HL.out; have := HL'.out; omega)) hb hd]; rfl)
      clear h1 h2
      go_wp2_with fail
      refine (HSI.out _ HG1.out HN.out).mono ?_
      rintro e w2 ⟨rfl, m, rfl⟩
      rw [HFU.out]
      cases hf : full s with
      | false =>
        have HF := Lib.hid (show lightB ⟨s, t, o⟩ 400 = true by rw [HLC.out _ _ hf rfl]; rfl)
        clear hf
        go_wp2_with fail
        go_ret
        exact tellG_eq (by rw [HF.out]; rfl) (grown_drewN HG1.out _)
      | true =>
        have HF := Lib.hid (show lightB ⟨s, t, o⟩ 400 = decide (sizeV s 1048576 ≤ 400) by rw [HLC.out _ _ hf rfl]; rfl)
        clear hf
        generalize sizeV s 1048576 = sv at *
        go_wp2_with fail
        go_ret
        exact tellG_eq (by rw [HF.out]; rfl) (grown_drewN HG1.out _)
end Go.Proofs.Ytdjenakmdjiknaa
end

/-! Layer 9: the reference's Lines. -/
section
namespace Go.Proofs.Ytdjenakmdjiknaa
open Go.ChangeShapes Go.WideShapes Go.ChangeAt Go.RowKit
set_option linter.unusedVariables false
set_option maxRecDepth 100000

/-- the first x of these, but the one at k. -/
def wo (l : List Int) (k x : Nat) : List Int := (l.take x).eraseIdx k
theorem wo_start (l : List Int) (k : Nat) : wo l k 0 = [] := by simp [wo]
theorem wo_step {l : List Int} {k x : Nat} (hx : x < l.length) (hne : ¬ x = k) : wo l k (x + 1) = wo l k x ++ [l.getD x 0] := by
  unfold wo
  have e : l.take (x + 1) = l.take x ++ [l.getD x 0] := by rw [List.take_succ_eq_append_getElem hx]; simp [List.getD, hx]
  rw [e]
  by_cases h : x < k
  · rw [List.eraseIdx_of_length_le (by simp; omega), List.eraseIdx_of_length_le (by simp; omega)]
  · rw [List.eraseIdx_append_of_lt_length (by rw [List.length_take]; omega)]
theorem wo_skip {l : List Int} {k : Nat} (hk : k < l.length) : wo l k (k + 1) = wo l k k := by
  unfold wo
  rw [List.take_succ_eq_append_getElem hk, List.eraseIdx_append_of_length_le (by rw [List.length_take]; omega), List.length_take, Nat.min_eq_left (by omega), Nat.sub_self]
  rw [List.eraseIdx_of_length_le (l := l.take k) (by rw [List.length_take]; omega)]
  simp
theorem wo_end {l : List Int} {k : Nat} (hk : k < l.length) : wo l k l.length = l.take k ++ l.drop (k + 1) := by
  unfold wo
  rw [List.take_of_length_le (Nat.le_refl _), List.eraseIdx_eq_take_drop_succ]
theorem wo_len {l : List Int} {k x : Nat} (hx : x ≤ l.length) : (wo l k x).length = if k < x then x - 1 else x := by
  unfold wo
  by_cases h : k < x
  · rw [if_pos h, List.length_eraseIdx_of_lt (by rw [List.length_take]; omega), List.length_take]; omega
  · rw [if_neg h, List.eraseIdx_of_length_le (by rw [List.length_take]; omega), List.length_take]; omega
theorem run_append_ints2 {w : World} {base n c m c' B : Nat} {A A' : Option Addr} {xs ys : List Int} (hown : OwnI w base A n c xs) (hsrc : Nums w B A' m ys) (hnone : A' = none → m = 0 ∧ c' = 0) (hb : base ≤ w.heap.size) (hle : n + m ≤ 4194304) (ty : TypeId) :
    ∃ A1 c1 w1, (Builtin.append_ #[22, 22] ty #[.slice A n c, .slice A' m c']).run Try.prog w = .ok (.slice A1 (n + m) c1) w1 ∧ OwnI w1 base A1 (n + m) c1 (xs ++ ys) ∧ w.grownBy w1 (A.map (·.block)) ∧ (A1.map (·.block) = A.map (·.block) ∨ A1.map (·.block) = some w.heap.size) := by
  obtain ⟨i0, hi, hz0, hz1, hz2⟩ := info_parts info_int
  cases A' with
  | none =>
    obtain ⟨rfl, rfl⟩ := hnone rfl
    have hrun := run_append_owned_none (P := Try.prog) (w := w) base 22 ty 3 i0 1 Try.underlying22 hi _ n _ hown.2
    have hy : ys = [] := List.eq_nil_of_length_eq_zero hsrc.1
    subst hy
    rw [Nat.add_zero, List.append_nil]
    exact ⟨A, c, w, hrun, hown, grown_refl _ _, .inl rfl⟩
  | some ad =>
    have hnews : ∀ j u, (intV ys)[j]? = some u → w.cell? (ad.add j) = some u := by
      intro j u hu
      have hj : j < ys.length := by rw [← intV_length]; exact (List.getElem?_eq_some_iff.1 hu).1
      obtain ⟨b, o, e, _, hc⟩ := hsrc.2 (by have := hsrc.1; omega)
      injection e with e
      subst e
      rw [Addr.add_lit, hc j (by have := hsrc.1; omega), ← intV_get ys j hj, hu]
    obtain ⟨v', w', hr, h2, h3, h4, h5⟩ := run_append_own_at (P := Try.prog) (w := w) base 22 ty 3 i0 _ 1 8 Try.underlying22 hi hz0 hz1 hz2 rfl (by omega) _ n _ hown.2 ad m c' (intV ys) (by rw [intV_length, hsrc.1]; omega) hnews (intV_one _) (by simp only [maxLen]; omega) (by omega) hb
    obtain ⟨A1, c1, rfl⟩ := own_slice1 h2
    rw [map_own] at h3
    rw [map_own, map_own] at h5
    refine ⟨A1, c1, w', hr, ⟨by rw [List.length_append, hown.1, hsrc.1], ?_⟩, h3, h5⟩
    have e : intV (xs ++ ys) = intV xs ++ intV ys := by simp [intV]
    rw [e]
    exact h2
theorem step_append_ints2 {ops : Array Oper} {o : Oper} {a : Act} {w : World} {K : Act → World → Prop} {Q : Exit → Act → World → Prop} {E : Prop} {base n c m c' B : Nat} {A A' : Option Addr} {xs ys : List Int} (hgd : o.guard = none) (d s : Operand)
    (ho : o.op = .call { callee := .builtin .append, args := #[d, s], argTypes := #[22, 22] }) (hd : a.eval d = .slice A n c) (hs : a.eval s = .slice A' m c') (hown : OwnI w base A n c xs) (hsrc : Nums w B A' m ys) (hnone : A' = none → m = 0 ∧ c' = 0) (hb : base ≤ w.heap.size) (hle : n + m ≤ 4194304)
    (hK : ∀ A1 c1 w1, Hid (OwnI w1 base A1 (n + m) c1 (xs ++ ys)) → Hid (w.grownBy w1 (A.map (·.block))) → Hid (A1.map (·.block) = A.map (·.block) ∨ A1.map (·.block) = some w.heap.size) → K (a.put o.dst (.slice A1 (n + m) c1)) w1) : if Region.wanted o (yielded ops a.tmps) = true then Oper.wp Try.prog o a w K Q else E := by
  have hw : Region.wanted o (yielded ops a.tmps) = true := by simp [Region.wanted, hgd]
  rw [if_pos hw]
  obtain ⟨A1, c1, w1, hrun, h1, h2, h3⟩ := run_append_ints2 hown hsrc hnone hb hle o.type
  unfold Oper.wp
  simp [execOp, ho, resolve, invoke, builtin, hd, hs, hrun, Result.andThen]
  exact hK _ _ _ (Lib.hid h1) (Lib.hid h2) (Lib.hid h3)
/-- own rows in other blocks stay. -/
theorem own_far {w w' : World} {B n c : Nat} {A : Option Addr} {zs : List Int} {row : Option Nat} (h : OwnI w B A n c zs) (hg : w.grownBy w' row) (hne : A.map (·.block) = none ∨ A.map (·.block) ≠ row) : OwnI w' B A n c zs :=
  ⟨h.1, h.2.kept hg (by rw [map_own]; exact hne)⟩
theorem own_not {w : World} {B n c g : Nat} {A : Option Addr} {zs : List Int} (h : OwnI w B A n c zs) (hg : g < B) : A.map (·.block) ≠ some g := fun e => by
  have := (h.2.lt g (by rw [map_own]; exact e)).1
  omega
/-- two rows' blocks. -/
def Parted (A B : Option Addr) : Prop := A.map (·.block) = none ∨ A.map (·.block) ≠ B.map (·.block)
/-- what the first loop holds: the rest's box, its two rows. -/
structure RestI (w2 : World) (g : Nat) (o : Int) (ls lt : List Int) (A : Option Addr) (c : Nat) (B : Option Addr) (d : Nat) (w : World) : Prop where
  box : Box w g 24 #[.slice A ls.length c, .slice B lt.length d, .int .i64 o]
  own : OwnI w w2.heap.size A ls.length c ls
  own' : OwnI w w2.heap.size B lt.length d lt
  parts : Parted A B
  parts' : Parted B A
  low : g < w2.heap.size
  big : w2.heap.size ≤ w.heap.size
theorem part_new {A B A9 : Option Addr} {sz : Nat} (h : Parted A B) (h' : Parted B A) (hb : A9.map (·.block) = A.map (·.block) ∨ A9.map (·.block) = some sz) (hB : ∀ b, B.map (·.block) = some b → b < sz) : Parted A9 B ∧ Parted B A9 := by
  unfold Parted at *
  rcases hb with e | e
  · rw [e]; exact ⟨h, h'⟩
  · rw [e]
    cases hq : B.map (·.block) with
    | none => exact ⟨.inr (by simp), .inl rfl⟩
    | some b =>
      have := hB b hq
      exact ⟨.inr (by simp; omega), .inr (by simp; omega)⟩
/-- behind an append to the first row, and the store of it. -/
theorem RestI.first {w2 w w9 : World} {g : Nat} {o : Int} {ls lt : List Int} {A B A9 : Option Addr} {c d c9 : Nat} {z : Int} (h : RestI w2 g o ls lt A c B d w) (sz : Nat) (hsz : w.heap.size ≤ sz) (ho : OwnI w9 w2.heap.size A9 (ls.length + 1) c9 (ls ++ [z])) (hg : w.grownBy w9 (A.map (·.block)))
    (hb : A9.map (·.block) = A.map (·.block) ∨ A9.map (·.block) = some sz) : RestI w2 g o (ls ++ [z]) lt A9 c9 B d (w9.setCell ⟨g, 0, none⟩ (.slice A9 (ls.length + 1) c9)) := by
  have hB : ∀ b, B.map (·.block) = some b → b < sz := fun b hb => by
    have := (h.own'.2.lt b (by rw [map_own]; exact hb)).2
    omega
  obtain ⟨p1, p2⟩ := part_new h.parts h.parts' hb hB
  have hbx := h.box.grown hg (fun e => own_not h.own h.low e.symm)
  have hl : (ls ++ [z]).length = ls.length + 1 := by simp
  refine ⟨?_, ?_, own_put_other (own_far h.own' hg h.parts') (own_not h.own' h.low) _, p1, p2, h.low, ?_⟩
  · rw [hl]; exact hbx.put 0 _
  · rw [hl]; exact own_put_other ho (own_not ho h.low) _
  · exact Nat.le_trans h.big (Nat.le_trans hg.size (by simp [World.setCell]))
theorem RestI.second {w2 w w9 : World} {g : Nat} {o : Int} {ls lt : List Int} {A B B9 : Option Addr} {c d c9 : Nat} {z : Int} (h : RestI w2 g o ls lt A c B d w) (sz : Nat) (hsz : w.heap.size ≤ sz) (ho : OwnI w9 w2.heap.size B9 (lt.length + 1) c9 (lt ++ [z])) (hg : w.grownBy w9 (B.map (·.block)))
    (hb : B9.map (·.block) = B.map (·.block) ∨ B9.map (·.block) = some sz) : RestI w2 g o ls (lt ++ [z]) A c B9 c9 (w9.setCell ⟨g, 1, none⟩ (.slice B9 (lt.length + 1) c9)) := by
  have hB : ∀ b, A.map (·.block) = some b → b < sz := fun b hb => by
    have := (h.own.2.lt b (by rw [map_own]; exact hb)).2
    omega
  obtain ⟨p1, p2⟩ := part_new h.parts' h.parts hb hB
  have hbx := h.box.grown hg (fun e => own_not h.own' h.low e.symm)
  have hl : (lt ++ [z]).length = lt.length + 1 := by simp
  refine ⟨?_, own_put_other (own_far h.own hg h.parts) (own_not h.own h.low) _, ?_, p2, p1, h.low, ?_⟩
  · rw [hl]; exact hbx.put 1 _
  · rw [hl]; exact own_put_other ho (own_not ho h.low) _
  · exact Nat.le_trans h.big (Nat.le_trans hg.size (by simp [World.setCell]))
theorem RestI.first2 {w2 w W w9 : World} {g : Nat} {o : Int} {ls lt : List Int} {A B A9 : Option Addr} {c d c9 : Nat} {z : Int} (h : RestI w2 g o ls lt A c B d w) (hW : w.grownBy W none) (ho : OwnI w9 w2.heap.size A9 (ls.length + 1) c9 (ls ++ [z])) (hg : W.grownBy w9 (A.map (·.block)))
    (hb : A9.map (·.block) = A.map (·.block) ∨ A9.map (·.block) = some W.heap.size) :
    RestI w2 g o (ls ++ [z]) lt A9 c9 B d (w9.setCell ⟨g, 0, none⟩ (.slice A9 (ls.length + 1) c9)) ∧ w9.cell? ⟨g, 0, none⟩ = some (.slice A ls.length c) ∧ w9.frozen? ⟨g, 0, none⟩ = false ∧ (∀ b j, b < w2.heap.size → w9.cell? ⟨b, j, none⟩ = w.cell? ⟨b, j, none⟩) ∧
      ∀ w0 : World, w0.grownBy w none → w0.heap.size ≤ w2.heap.size → w0.heap.size ≤ g → w0.grownBy (w9.setCell ⟨g, 0, none⟩ (.slice A9 (ls.length + 1) c9)) none := by
  have hgt : w.grownBy w9 (A.map (·.block)) := (⟨hW.os, hW.tape, hW.output, hW.size, fun i hi _ => hW.block i hi (by simp)⟩ : w.grownBy W _).trans hg
  have hbx := h.box.grown hgt (fun e => own_not h.own h.low e.symm)
  refine ⟨h.first W.heap.size hW.size ho hgt hb, hbx.get 0, hbx.free 0, fun b j hb => hgt.cell_far ⟨b, j, none⟩ (show b < _ from Nat.lt_of_lt_of_le hb h.big) (fun e => own_not h.own hb e.symm), fun w0 h0 h1 h2 => ?_⟩
  refine grown_put (grown_join h0 hgt (.inr fun b hb => ?_)) (.inr h2) _
  have := (h.own.2.lt b (by rw [map_own]; exact hb)).1
  omega
theorem RestI.second2 {w2 w W w9 : World} {g : Nat} {o : Int} {ls lt : List Int} {A B A9 : Option Addr} {c d c9 : Nat} {z : Int} (h : RestI w2 g o ls lt A c B d w) (hW : w.grownBy W none) (ho : OwnI w9 w2.heap.size A9 (lt.length + 1) c9 (lt ++ [z])) (hg : W.grownBy w9 (B.map (·.block)))
    (hb : A9.map (·.block) = B.map (·.block) ∨ A9.map (·.block) = some W.heap.size) :
    RestI w2 g o ls (lt ++ [z]) A c A9 c9 (w9.setCell ⟨g, 1, none⟩ (.slice A9 (lt.length + 1) c9)) ∧ w9.cell? ⟨g, 1, none⟩ = some (.slice B lt.length d) ∧ w9.frozen? ⟨g, 1, none⟩ = false ∧ (∀ b j, b < w2.heap.size → w9.cell? ⟨b, j, none⟩ = w.cell? ⟨b, j, none⟩) ∧
      ∀ w0 : World, w0.grownBy w none → w0.heap.size ≤ w2.heap.size → w0.heap.size ≤ g → w0.grownBy (w9.setCell ⟨g, 1, none⟩ (.slice A9 (lt.length + 1) c9)) none := by
  have hgt : w.grownBy w9 (B.map (·.block)) := (⟨hW.os, hW.tape, hW.output, hW.size, fun i hi _ => hW.block i hi (by simp)⟩ : w.grownBy W _).trans hg
  have hbx := h.box.grown hgt (fun e => own_not h.own' h.low e.symm)
  refine ⟨h.second W.heap.size hW.size ho hgt hb, hbx.get 1, hbx.free 1, fun b j hb => hgt.cell_far ⟨b, j, none⟩ (show b < _ from Nat.lt_of_lt_of_le hb h.big) (fun e => own_not h.own' hb e.symm), fun w0 h0 h1 h2 => ?_⟩
  refine grown_put (grown_join h0 hgt (.inr fun b hb => ?_)) (.inr h2) _
  have := (h.own'.2.lt b (by rw [map_own]; exact hb)).1
  omega
/-- a number of a row that is read, later on. -/
theorem cell_now {w w' : World} {b f n k : Nat} {zs : List Int} (h : Nums w w.heap.size (some ⟨b, f, none⟩) n zs) (hg : w.grownBy w' none) (hk : k < n) : w'.cell? ⟨b, f + k, none⟩ = some (.int .i64 (zs.getD k 0)) := by
  obtain ⟨b', f', e, _, hc⟩ := (h.grow hg).2.at_ hk
  injection e with e
  injection e with e1 e2
  subst e1; subst e2
  exact hc
/-! ### rows of views of one axis -/
theorem info_view9 : (Try.prog.info? 24).map (fun i => (i.zero, i.size, i.bytes)) = some (some (.agg #[.slice none 0 0, .slice none 0 0, .int .i64 0]), 3, 56) := by kernel_rfl
def elV (e : Nat × Nat × Int) : List Value := [.slice (some ⟨e.1, 0, none⟩) 1 1, .slice (some ⟨e.2.1, 0, none⟩) 1 1, .int .i64 e.2.2]
theorem elV_one (e : Nat × Nat × Int) : ∀ u ∈ elV e, u.oneCell' = true := by
  intro u hu
  simp [elV] at hu
  rcases hu with rfl | rfl | rfl <;> rfl
/-- the views told so far. -/
structure OutI (w : World) (base : Nat) (sh st : Int) (B : Option Addr) (y d : Nat) (es : List (Nat × Nat × Int)) : Prop where
  len : es.length = y
  own : w.ownsRow base 24 3 (.slice B y d) y (es.flatMap elV)
  at_ : ∀ e ∈ es, Box w e.1 3 #[.int .i64 sh] ∧ Box w e.2.1 3 #[.int .i64 st]
theorem OutI.nil (w : World) (base : Nat) (sh st : Int) : OutI w base sh st none 0 0 [] := ⟨rfl, World.ownsRow_nil _ _ _ _, fun e he => by cases he⟩
theorem OutI.grow {w w' : World} {base : Nat} {sh st : Int} {B : Option Addr} {y d : Nat} {es : List (Nat × Nat × Int)} (h : OutI w base sh st B y d es) (hg : w.grownBy w' none) : OutI w' base sh st B y d es :=
  ⟨h.len, own_grow h.own hg, fun e he => ⟨(h.at_ e he).1.grown hg (by simp), (h.at_ e he).2.grown hg (by simp)⟩⟩
theorem OutI.more {w w9 : World} {base : Nat} {sh st : Int} {B B9 : Option Addr} {y d d9 : Nat} {es : List (Nat × Nat × Int)} {e9 : Nat × Nat × Int} (h : OutI w base sh st B y d es) (ho : w9.ownsRow base 24 3 (.slice B9 (y + 1) d9) (y + 1) (es.flatMap elV ++ elV e9)) (hg : w.grownBy w9 (B.map (·.block)))
    (b1 : Box w e9.1 3 #[.int .i64 sh]) (b2 : Box w e9.2.1 3 #[.int .i64 st]) : OutI w9 base sh st B9 (y + 1) d9 (es ++ [e9]) := by
  have far : ∀ (a : Nat) (cs : Array Value), Box w a 3 cs → Box w9 a 3 cs := fun a cs hb =>
    hb.grown hg (fun e => own_apart h.own hb (by decide) (by rw [map_own]; exact e.symm))
  refine ⟨by rw [List.length_append, h.len]; rfl, by rw [List.flatMap_append]; simpa using ho, fun e he => ?_⟩
  rw [List.mem_append, List.mem_singleton] at he
  rcases he with he | rfl
  · exact ⟨far _ _ (h.at_ e he).1, far _ _ (h.at_ e he).2⟩
  · exact ⟨far _ _ b1, far _ _ b2⟩
/-- .. the append, as one step of a region that draws its order. -/
theorem step_append_view {ops : Array Oper} {o : Oper} {a : Act} {w w0 : World} {K : Act → World → Prop} {Q : Exit → Act → World → Prop} {E : Prop} {base y d g : Nat} {sh st : Int} {B : Option Addr} {es : List (Nat × Nat × Int)} {e9 : Nat × Nat × Int} (hgd : o.guard = none) (dd ss : Operand)
    (ho : o.op = .call { callee := .builtin .append, args := #[dd, ss], argTypes := #[27, 27] }) (hd : a.eval dd = .slice B y d) (hs : a.eval ss = .slice (some ⟨g, 0, none⟩) 1 1) (h : OutI w0 base sh st B y d es) (hW : w0.grownBy w none)
    (hbx : Box w g 24 (elV e9).toArray) (b1 : Box w e9.1 3 #[.int .i64 sh]) (b2 : Box w e9.2.1 3 #[.int .i64 st]) (hb : base ≤ w.heap.size) (hle : y ≤ 1048576)
    (hK : ∀ B9 d9 w9, Hid (OutI w9 base sh st B9 (y + 1) d9 (es ++ [e9])) → Hid (∀ w1 : World, w1.grownBy w0 none → w1.heap.size ≤ base → w1.grownBy w9 none) → K (a.put o.dst (.slice B9 (y + 1) d9)) w9) : if Region.wanted o (yielded ops a.tmps) = true then Oper.wp Try.prog o a w K Q else E := by
  have hw : Region.wanted o (yielded ops a.tmps) = true := by simp [Region.wanted, hgd]
  rw [if_pos hw]
  have h1 := h.grow hW
  obtain ⟨i0, hi, hz0, hz1, hz2⟩ := info_parts info_view9
  have hnews : ∀ j u, (elV e9)[j]? = some u → w.cell? ((⟨g, 0, none⟩ : Addr).add j) = some u := by
    intro j u hu
    rw [Addr.add_lit, Nat.zero_add, hbx.get j]
    simpa using hu
  obtain ⟨v', w', hr, h2, h3, _, _⟩ := run_append_own_at (P := Try.prog) (w := w) base 27 o.type 24 i0 _ 3 56 Try.underlying27 hi hz0 hz1 hz2 rfl (by omega) _ y _ h1.own ⟨g, 0, none⟩ 1 1 (elV e9) rfl hnews (elV_one e9) (by simp only [maxLen]; omega) (by omega) hb
  obtain ⟨B9, d9, rfl⟩ := own_slice1 h2
  rw [map_own] at h3
  unfold Oper.wp
  simp [execOp, ho, resolve, invoke, builtin, hd, hs, hr, Result.andThen]
  refine hK _ _ _ (Lib.hid (h1.more h2 h3 b1 b2)) (Lib.hid fun w1 hw1 hsz => grown_join (grown_join hw1 hW (.inr (by simp))) h3 (.inr fun b hb => ?_))
  have := (h1.own.lt b (by rw [map_own]; exact hb)).1
  omega
theorem step_append_view3 {ops : Array Oper} {o : Oper} {a : Act} {w w0 : World} {K : Act → World → Prop} {Q : Exit → Act → World → Prop} {E : Prop} {base y d g : Nat} {sh st : Int} {B : Option Addr} {es : List (Nat × Nat × Int)} {p q : Nat} {z : Int} (hgd : o.guard = none) (dd ss : Operand)
    (ho : o.op = .call { callee := .builtin .append, args := #[dd, ss], argTypes := #[27, 27] }) (hd : a.eval dd = .slice B y d) (hs : a.eval ss = .slice (some ⟨g, 0, none⟩) 1 1) (h : OutI w0 base sh st B y d es) (hW : w0.grownBy w none)
    (hbx : Box w g 24 #[.slice (some ⟨p, 0, none⟩) 1 1, .slice (some ⟨q, 0, none⟩) 1 1, .int .i64 z]) (b1 : Box w p 3 #[.int .i64 sh]) (b2 : Box w q 3 #[.int .i64 st]) (hb : base ≤ w.heap.size) (hle : y ≤ 1048576)
    (hK : ∀ B9 d9 w9, Hid (OutI w9 base sh st B9 (y + 1) d9 (es ++ [(p, q, z)])) → Hid (∀ w1 : World, w1.grownBy w0 none → w1.heap.size ≤ base → w1.grownBy w9 none) → K (a.put o.dst (.slice B9 (y + 1) d9)) w9) : if Region.wanted o (yielded ops a.tmps) = true then Oper.wp Try.prog o a w K Q else E :=
  step_append_view (e9 := (p, q, z)) hgd dd ss ho hd hs h hW hbx b1 b2 hb hle hK
theorem col_small (v : Vw) : (colL v).length ≤ 1048576 := by
  by_cases h : rightV v = true
  · rw [col_yes h]
    unfold offsL
    rw [List.length_map, List.length_range, cells_right h]
    have := (full_all (rightV_all h).1).2
    omega
  · rw [col_no (by simpa using h)]; simp
theorem box9_a (w : World) (a b c : Array Value) (ta tb tc : TypeId) : Box (((w.alloc (.cells a ta)).alloc (.cells b tb)).alloc (.cells c tc)) (w.heap.size + 1 + 1) tc c := by
  have := Box.fresh ((w.alloc (.cells a ta)).alloc (.cells b tb)) tc c
  rw [show ((w.alloc (.cells a ta)).alloc (.cells b tb)).heap.size = w.heap.size + 1 + 1 by simp] at this
  exact this
theorem box9_b (w : World) (a b c : Array Value) (ta tb tc : TypeId) : Box (((w.alloc (.cells a ta)).alloc (.cells b tb)).alloc (.cells c tc)).drew (w.heap.size + 1 + 1) tc c := box9_a w a b c ta tb tc
theorem box9_1 (w : World) (a b c : Array Value) (ta tb tc : TypeId) : Box (((w.alloc (.cells a ta)).alloc (.cells b tb)).alloc (.cells c tc)) w.heap.size ta a := ((Box.fresh w ta a).alloc _).alloc _
theorem box9_2 (w : World) (a b c : Array Value) (ta tb tc : TypeId) : Box (((w.alloc (.cells a ta)).alloc (.cells b tb)).alloc (.cells c tc)).drew w.heap.size ta a := box9_1 w a b c ta tb tc
theorem box9_3 (w : World) (a b c : Array Value) (ta tb tc : TypeId) : Box (((w.alloc (.cells a ta)).alloc (.cells b tb)).alloc (.cells c tc)) (w.heap.size + 1) tb b := by
  have := (Box.fresh (w.alloc (.cells a ta)) tb b).alloc (.cells c tc)
  rw [show (w.alloc (.cells a ta)).heap.size = w.heap.size + 1 by simp] at this
  exact this
theorem box9_4 (w : World) (a b c : Array Value) (ta tb tc : TypeId) : Box (((w.alloc (.cells a ta)).alloc (.cells b tb)).alloc (.cells c tc)).drew (w.heap.size + 1) tb b := box9_3 w a b c ta tb tc
theorem OutI.lower {w : World} {base base' : Nat} {sh st : Int} {B : Option Addr} {y d : Nat} {es : List (Nat × Nat × Int)} (h : OutI w base sh st B y d es) (hb : base' ≤ base) : OutI w base' sh st B y d es := ⟨h.len, own_lower h.own hb, h.at_⟩
/-- the other axes. -/
def restV (v : Vw) (k : Nat) : Vw := ⟨v.sh.take k ++ v.sh.drop (k + 1), v.st.take k ++ v.st.drop (k + 1), v.off⟩
/-- where the lines of an axis begin. -/
def linesL (v : Vw) (i : Int) : List Int := if axisB v i = true then colL (restV v i.toNat) else []
theorem lines_no {v : Vw} {i : Int} (h : axisB v i = false) : linesL v i = [] := if_neg (by rw [h]; exact Bool.false_ne_true)
theorem lines_yes {v : Vw} {i : Int} (h : axisB v i = true) : linesL v i = colL (restV v i.toNat) := if_pos h
/-- views are told, each of the one axis. -/
def GaveLines (v : Vw) (i : Int) (w : World) (e : Ending) (w' : World) : Prop := ∃ B m d es, e = .returned (.slice B m d) ∧ OutI w' w.heap.size (v.sh.getD i.toNat 0) (v.st.getD i.toNat 0) B m d es ∧ es.map (fun e => e.2.2) = linesL v i ∧ w.grownBy w' none
theorem gaveLines_no {v : Vw} {i : Int} {w w' : World} (h : linesL v i = []) (hg : w.grownBy w' none) : GaveLines v i w (.returned (.slice none 0 0)) w' := ⟨none, 0, 0, [], rfl, OutI.nil _ _ _ _, by rw [h]; rfl, hg⟩
end Go.Proofs.Ytdjenakmdjiknaa
end

/-! Layer 9: the reference's Lines: the walk. -/
section
namespace Go.Proofs.Ytdjenakmdjiknaa
open Go.ChangeShapes Go.WideShapes Go.ChangeAt Go.RowKit
set_option linter.unusedVariables false
set_option maxRecDepth 100000

set_option maxHeartbeats 8000000 in
theorem ref9Lines_any (A A' : Option Addr) (n c n' c' : Nat) (s t : List Int) (o i : Int) (w : World) (h : NumsF w A n c s) (h' : NumsF w A' n' c' t) (hn : n ≤ 1048576) (hn' : n' ≤ 1048576) :
    Calls Try.prog 8 #[.agg #[.slice A n c, .slice A' n' c', .int .i64 o], .int .i64 i] w (GaveLines ⟨s, t, o⟩ i w) := by
  have HR := Lib.hid (fun w' (hg : w.grownBy w' none) => ref8Right_any A A' n c n' c' s t o w' (h.1.grow hg) (h'.1.grow hg) hn hn')
  have HLN := Lib.hid h.len
  have HLT := Lib.hid h'.len
  obtain ⟨w1, hw1⟩ : ∃ w1, w1 = w.alloc (.cells #[.slice A n c, .slice A' n' c', .int .i64 o] 24) := ⟨_, rfl⟩
  have hb := box8 w 24 #[.slice A n c, .slice A' n' c', .int .i64 o]
  rw [← hw1] at hb
  obtain ⟨hx, hg1⟩ := hb
  have HBV := Lib.hid hx
  have HG1 := Lib.hid hg1
  have HW1 := Lib.hid hw1
  clear hw1 hx hg1
  cases hr : rightV ⟨s, t, o⟩ with
  | false =>
    rw [hr] at HR
    have HE := Lib.hid (lines_no (show axisB ⟨s, t, o⟩ i = false by unfold axisB; rw [hr]; rfl))
    clear h h' hr
    go_enter Try.func8, Try.ntmps8
    go_upto_region 1 with fail
    rw [← HW1.out]
    have x0 := HBV.out.get 0
    have x1 := HBV.out.get 1
    have x2 := HBV.out.get 2
    go_wp2_with fail
    refine (HR.out _ HG1.out).mono ?_
    rintro e w3 ⟨rfl, hg⟩
    have HG3 := Lib.hid (grown_join HG1.out hg (.inr (by simp)))
    clear hg x0 x1 x2
    go_wp2_with fail
    go_ret
    exact gaveLines_no HE.out HG3.out
  | true =>
    rw [hr] at HR
    by_cases hax : 0 ≤ i ∧ i < n
    rotate_left
    · have HE := Lib.hid (lines_no (show axisB ⟨s, t, o⟩ i = false by unfold axisB; rw [hr]; simp only [Bool.true_and, decide_eq_false_iff_not]; have := HLN.out; omega))
      have hca : decide (i < 0) = true ∨ (decide (i < 0) = false ∧ decide ((n : Int) ≤ i) = true) := by
        by_cases h0 : i < 0
        · exact .inl (decide_eq_true h0)
        · exact .inr ⟨decide_eq_false h0, decide_eq_true (by omega)⟩
      clear h h' hr hax
      rcases hca with z0 | ⟨z0, z1⟩
      all_goals
        go_enter Try.func8, Try.ntmps8
        go_upto_region 1 with fail
        rw [← HW1.out]
        have x0 := HBV.out.get 0
        have x1 := HBV.out.get 1
        have x2 := HBV.out.get 2
        go_wp2_with fail
        refine (HR.out _ HG1.out).mono ?_
        rintro e w3 ⟨rfl, hg⟩
        have HG3 := Lib.hid (grown_join HG1.out hg (.inr (by simp)))
        have HBV3 := Lib.hid (HBV.out.grown hg (by simp))
        clear hg x0 x1 x2
        have x0 := HBV3.out.get 0
        go_wp2_with fail
        go_ret
        exact gaveLines_no HE.out HG3.out
    · obtain ⟨k, rfl⟩ : ∃ k : Nat, i = (k : Int) := ⟨i.toNat, by omega⟩
      have hk : k < n := by omega
      have z0 : decide ((k : Int) < 0) = false := decide_eq_false (by omega)
      have z1 : decide ((n : Int) ≤ (k : Int)) = false := decide_eq_false (by omega)
      have z2 : decide (n ≤ k) = false := decide_eq_false (by omega)
      have HNN := Lib.hid (show n' = n by have := (rightV_all hr).2.1; have a := HLN.out; have b := HLT.out; dsimp only at this; omega)
      have hn6 : n ≤ 6 := by have := rightV_dims hr; have a := HLN.out; dsimp only at this; omega
      have HRV := Lib.hid hr
      have HAX := Lib.hid (show axisB ⟨s, t, o⟩ (k : Int) = true by unfold axisB; rw [hr]; simp only [Bool.true_and, decide_eq_true_eq]; have := HLN.out; omega)
      obtain ⟨bs0, fs0, rfl, hbs0, _⟩ := h.1.2.at_ hk
      obtain ⟨bt0, ft0, rfl, hbt0, _⟩ := h'.1.2.at_ (show k < n' by rw [HNN.out]; exact hk)
      have HS := Lib.hid h
      have HT := Lib.hid h'
      clear hr hax h h'
      go_enter Try.func8, Try.ntmps8
      go_upto_region 1 with fail
      rw [← HW1.out]
      have x0 := HBV.out.get 0
      have x1 := HBV.out.get 1
      have x2 := HBV.out.get 2
      go_wp2_with fail
      refine (HR.out _ HG1.out).mono ?_
      rintro e w3 ⟨rfl, hg⟩
      have HH3 := Lib.hid hg
      have HBV3 := Lib.hid (HBV.out.grown hg (by simp))
      clear hg x0 x1 x2
      have x0 := HBV3.out.get 0
      have x2 := HBV3.out.get 2
      go_upto_region 4 with fail
      clear x0 x2
      obtain ⟨w2, hw2⟩ : ∃ w2, w2 = w3.alloc (.cells #[.slice none 0 0, .slice none 0 0, .int .i64 o] 24) := ⟨_, rfl⟩
      rw [← hw2]
      obtain ⟨g, hgd⟩ : ∃ g, g = w3.heap.size := ⟨_, rfl⟩
      have hg23 : w3.grownBy w2 none := by rw [hw2]; exact World.grownBy_alloc _ _ _
      have HRI : Hid (RestI w2 g o [] [] none 0 none 0 w2) := Lib.hid ⟨by rw [hw2, hgd]; exact Box.fresh w3 _ _, OwnI.nil _ _, OwnI.nil _ _, .inl rfl, .inl rfl, by rw [hw2, hgd]; simp, Nat.le_refl _⟩
      have HH2 := Lib.hid (grown_join HH3.out hg23 (.inr (by simp)))
      have HVG := Lib.hid (show w1.heap.size ≤ g by rw [hgd]; exact HH3.out.size)
      have HVL := Lib.hid (show w.heap.size < w1.heap.size from HBV.out.small)
      have HVS := Lib.hid HH2.out.size
      rw [← hgd]
      clear hw2 hgd hg23
      go_wp2_with fail
      go_loopw [6] (fun j wr => ∃ (x : Nat) (R : Option Addr) (rc : Nat) (Q : Option Addr) (qc : Nat), x ≤ n ∧ j = .int .i64 x ∧ Hid (RestI w2 g o (wo s k x) (wo t k x) R rc Q qc wr) ∧ Hid (w1.grownBy wr none)) (fun j _ => n - (intOf j).toNat)
      case atStart => exact ⟨0, none, 0, none, 0, Nat.zero_le _, rfl, by rw [wo_start, wo_start]; exact HRI, HH2⟩
      case round =>
        obtain ⟨x, R, rc, Q, qc, hx, rfl, HRI, HH⟩ := hrel
        have v0 := (HBV.out.grown HH.out (by simp)).get 0
        have HG := Lib.hid (grown_join HG1.out HH.out (.inr (by simp)))
        by_cases hlt : x < n
        · have g0 : decide ((x : Int) < (n : Int)) = true := decide_eq_true (by omega)
          by_cases hxk : x = k
          · subst hxk
            have e0 : ((x : Int) != (x : Int)) = false := by simp
            go_wp2_with fail
            go_roundw
            case rel => exact ⟨x + 1, R, rc, Q, qc, by omega, by go_num, by rw [wo_skip (by rw [HLN.out]; exact hlt), wo_skip (by rw [HLT.out, HNN.out]; exact hlt)]; exact HRI, HH⟩
            case measure => simp [intOf]; omega
          · have e0 : ((x : Int) != (k : Int)) = true := by simp; omega
            have HZS := Lib.hid (wo_step (l := s) (k := k) (x := x) (by rw [HLN.out]; exact hlt) hxk)
            have HZT := Lib.hid (wo_step (l := t) (k := k) (x := x) (by rw [HLT.out, HNN.out]; exact hlt) hxk)
            have hlt' : x < n' := by rw [HNN.out]; exact hlt
            have HCS := Lib.hid (fun w' (hg : w1.grownBy w' none) => cell_now HS.out.1 (grown_join HG1.out hg (.inr (by simp))) hlt)
            have HCT := Lib.hid (fun w' (hg : w1.grownBy w' none) => cell_now HT.out.1 (grown_join HG1.out hg (.inr (by simp))) hlt')
            have hbs02 : bs0 < w2.heap.size := by have := HVL.out; have := HVS.out; omega
            have hbt02 : bt0 < w2.heap.size := by have := HVL.out; have := HVS.out; omega
            have hv2 : w.heap.size < w2.heap.size := by have := HVL.out; have := HVS.out; omega
            have hls : (wo s k x).length ≤ 6 := by rw [wo_len (by rw [HLN.out]; omega)]; split <;> omega
            have hlt2 : (wo t k x).length ≤ 6 := by rw [wo_len (by rw [HLT.out, HNN.out]; omega)]; split <;> omega
            obtain ⟨ls, hls0⟩ : ∃ ls, ls = wo s k x := ⟨_, rfl⟩
            obtain ⟨lt, hlt0⟩ : ∃ lt, lt = wo t k x := ⟨_, rfl⟩
            rw [← hls0] at HZS hls HRI
            rw [← hlt0] at HZT hlt2 HRI
            generalize s.getD x 0 = zs at *
            generalize t.getD x 0 = zt at *
            clear hls0 hlt0 v0
            have q0 := HRI.out.box.get 0
            have v0 := (HBV.out.grown HH.out (by simp)).get 0
            have c0 := HCS.out _ HH.out
            have HBG := Lib.hid HRI.out.big
            go_upto_region 8 with fail
            go_cut [] from 37 to 46 (fun wx => ∃ R' rc', Hid (RestI w2 g o (ls ++ [zs]) lt R' rc' Q qc wx) ∧ Hid (w1.grownBy wx none))
            case first =>
              have gLT : World.grownBy wr (wr.alloc (.cells #[.int .i64 zs] 3)).drew none := grown_drew (World.grownBy_alloc _ _ _)
              have q1 := (HRI.out.box.grown gLT (by simp)).get 0
              have v1 := ((HBV.out.grown HH.out (by simp)).grown gLT (by simp)).get 0
              have c1 := (gLT.cell_far ⟨bs0, fs0 + x, none⟩ (Nat.lt_of_lt_of_le hbs02 HBG.out) (by simp)).trans c0
              go_region_law (refine step_append_ints2 rfl (.tmp 38) (.tmp 44) rfl (by rfl) (by rfl) (base := w2.heap.size) (xs := ls) (ys := [zs]) (OwnI.grow HRI.out.own (by repeat (first | exact grown_refl _ _ | refine grown_drew ?_ | refine grown_alloc ?_ _))) (ints_one (by first | exact one7 _ _ | exact one7a _ _ | exact one7c _ _ _)) (fun e => by cases e) (by have := HBG.out; first | omega | (simp; omega)) (by omega) ?_; intro A9 c9 w9 ho9 hg9 hb9; obtain ⟨hRF, d0, f0, hkc, hgf⟩ := RestI.first2 HRI.out (by repeat (first | exact grown_refl _ _ | refine grown_drew ?_ | refine grown_alloc ?_ _)) ho9.out hg9.out hb9.out; have HRF := Lib.hid hRF; have HGF := Lib.hid hgf; have v0' := (hkc _ 0 hv2).trans v0; have c0' := (hkc _ (fs0 + x) hbs02).trans c0; clear hRF hgf hkc)
              all_goals
                go_wp2_with fail
                go_meet
                exact ⟨A9, c9, HRF, Lib.hid (HGF.out w1 HH.out HVS.out HVG.out)⟩
            case rest =>
              obtain ⟨R2, rc2, HRI2, HH2'⟩ := hcut
              clear q0 v0 c0 HBG
              have q0 := HRI2.out.box.get 1
              have v0 := (HBV.out.grown HH2'.out (by simp)).get 1
              have c0 := HCT.out _ HH2'.out
              have HBG := Lib.hid HRI2.out.big
              go_upto_region 9 with fail
              have gLT : World.grownBy wc (wc.alloc (.cells #[.int .i64 zt] 3)).drew none := grown_drew (World.grownBy_alloc _ _ _)
              have q1 := (HRI2.out.box.grown gLT (by simp)).get 1
              have v1 := ((HBV.out.grown HH2'.out (by simp)).grown gLT (by simp)).get 1
              have c1 := (gLT.cell_far ⟨bt0, ft0 + x, none⟩ (Nat.lt_of_lt_of_le hbt02 HBG.out) (by simp)).trans c0
              go_region_law (refine step_append_ints2 rfl (.tmp 48) (.tmp 54) rfl (by rfl) (by rfl) (base := w2.heap.size) (xs := lt) (ys := [zt]) (OwnI.grow HRI2.out.own' (by repeat (first | exact grown_refl _ _ | refine grown_drew ?_ | refine grown_alloc ?_ _))) (ints_one (by first | exact one7 _ _ | exact one7a _ _ | exact one7c _ _ _)) (fun e => by cases e) (by have := HBG.out; first | omega | (simp; omega)) (by omega) ?_; intro A9 c9 w9 ho9 hg9 hb9; obtain ⟨hRF, d0, f0, hkc, hgf⟩ := RestI.second2 HRI2.out (by repeat (first | exact grown_refl _ _ | refine grown_drew ?_ | refine grown_alloc ?_ _)) ho9.out hg9.out hb9.out; have HRF := Lib.hid hRF; have HGF := Lib.hid hgf; have v0' := (hkc _ 1 hv2).trans v0; have c0' := (hkc _ (ft0 + x) hbt02).trans c0; clear hRF hgf hkc)
              all_goals
                go_wp2_with fail
                go_roundw
                case rel => exact ⟨x + 1, _, _, _, _, by omega, by go_num, by rw [HZS.out, HZT.out]; exact HRF, Lib.hid (HGF.out w1 HH2'.out HVS.out HVG.out)⟩
                case measure => simp [intOf]; omega
        · have hxn : x = n := by omega
          have g0 : decide ((x : Int) < (n : Int)) = false := decide_eq_false (by omega)
          obtain ⟨ls, hls0⟩ : ∃ ls, ls = wo s k x := ⟨_, rfl⟩
          obtain ⟨lt, hlt0⟩ : ∃ lt, lt = wo t k x := ⟨_, rfl⟩
          have HLS := Lib.hid (show ls = s.take k ++ s.drop (k + 1) by rw [hls0, hxn, ← HLN.out]; exact wo_end (by rw [HLN.out]; exact hk))
          have HLT2 := Lib.hid (show lt = t.take k ++ t.drop (k + 1) by rw [hlt0, hxn, ← HNN.out, ← HLT.out]; exact wo_end (by rw [HLT.out, HNN.out]; exact hk))
          have hls : ls.length ≤ 6 := by rw [hls0, wo_len (by rw [HLN.out]; omega)]; split <;> omega
          have hlt2 : lt.length ≤ 6 := by rw [hlt0, wo_len (by rw [HLT.out, HNN.out]; omega)]; split <;> omega
          rw [← hls0, ← hlt0] at HRI
          have HCO := Lib.hid (ref9Collect_any R Q ls.length rc lt.length qc ls lt o wr HRI.out.own.numsF HRI.out.own'.numsF (by omega) (by omega))
          have r0 := HRI.out.box.get 0
          have r1 := HRI.out.box.get 1
          have r2 := HRI.out.box.get 2
          clear hls0 hlt0
          go_wp2_with fail
          refine HCO.out.mono ?_
          rintro e w5 ⟨D, dc, rfl, ho, hg⟩
          have HH5 := Lib.hid (grown_join HH.out hg (.inr (by simp)))
          have HCS := Lib.hid (col_small ⟨ls, lt, o⟩)
          obtain ⟨L, hL⟩ : ∃ L, L = colL ⟨ls, lt, o⟩ := ⟨_, rfl⟩
          rw [← hL] at ho HCS ⊢
          have HLE := Lib.hid hL
          have HOL := Lib.hid ho
          have hLs := HCS.out
          clear ho hL hg r0 r1 r2 v0 g0
          go_wp2_with fail
          go_loopw [8, 9] (fun v j wr => ∃ (y : Nat) (B : Option Addr) (d : Nat) (es : List (Nat × Nat × Int)), y ≤ L.length ∧ j = .int .i64 y ∧ v = .slice B y d ∧ Hid (OutI wr w5.heap.size (s.getD k 0) (t.getD k 0) B y d es) ∧ Hid (es.map (fun e => e.2.2) = L.take y) ∧ Hid (w5.grownBy wr none)) (fun _ j _ => L.length - (intOf j).toNat)
          case atStart => exact ⟨0, none, 0, [], Nat.zero_le _, rfl, rfl, Lib.hid (OutI.nil _ _ _ _), Lib.hid rfl, Lib.hid (grown_refl _ _)⟩
          case round =>
            obtain ⟨y, B, d, es, hy, rfl, rfl, HOU, HES, HH6⟩ := hrel
            by_cases hyl : y < L.length
            · have g0 : decide ((y : Int) < (L.length : Int)) = true := decide_eq_true (by omega)
              have HH7 := Lib.hid (grown_join HH5.out HH6.out (.inr (by simp)))
              have v0 := (HBV.out.grown HH7.out (by simp)).get 0
              have v1 := (HBV.out.grown HH7.out (by simp)).get 1
              have cs := cell_now HS.out.1 (grown_join HG1.out HH7.out (.inr (by simp))) hk
              have ct := cell_now HT.out.1 (grown_join HG1.out HH7.out (.inr (by simp))) (show k < n' by rw [HNN.out]; exact hk)
              obtain ⟨rr, rfl, _, cl, _⟩ := (HOL.out.grow HH6.out).at_ hyl
              have HLY := Lib.hid (show L.take (y + 1) = L.take y ++ [L.getD y 0] by rw [List.take_succ_eq_append_getElem hyl]; simp [List.getD, hyl])
              have hkn' : (k : Int) < (n' : Int) := by have := HNN.out; omega
              have hsz := HH6.out.size
              have HKL : Hid (∀ w' : World, w5.grownBy w' none → w'.cell? ⟨w.heap.size, 0, none⟩ = some (.slice (some ⟨bs0, fs0, none⟩) n c) ∧ w'.cell? ⟨w.heap.size, 1, none⟩ = some (.slice (some ⟨bt0, ft0, none⟩) n' c') ∧ w'.cell? ⟨bs0, fs0 + k, none⟩ = some (.int .i64 (s.getD k 0)) ∧ w'.cell? ⟨bt0, ft0 + k, none⟩ = some (.int .i64 (t.getD k 0)) ∧ w'.cell? ⟨rr, y, none⟩ = some (.int .i64 (L.getD y 0))) := Lib.hid fun w' hg => by
                have hg7 := grown_join HH5.out hg (.inr (by simp))
                obtain ⟨r9, e9, _, c9, _⟩ := (HOL.out.grow hg).at_ hyl
                injection e9 with e9
                injection e9 with e9
                subst e9
                exact ⟨(HBV.out.grown hg7 (by simp)).get 0, (HBV.out.grown hg7 (by simp)).get 1, cell_now HS.out.1 (grown_join HG1.out hg7 (.inr (by simp))) hk, cell_now HT.out.1 (grown_join HG1.out hg7 (.inr (by simp))) (show k < n' by rw [HNN.out]; exact hk), c9⟩
              generalize s.getD k 0 = zs at *
              generalize t.getD k 0 = zt at *
              generalize L.getD y 0 = zl at *
              go_upto_region 15 with fail
              have HKG : Hid (∀ w' : World, wr.grownBy w' none → w'.cell? ⟨w.heap.size, 0, none⟩ = some (.slice (some ⟨bs0, fs0, none⟩) n c) ∧ w'.cell? ⟨w.heap.size, 1, none⟩ = some (.slice (some ⟨bt0, ft0, none⟩) n' c') ∧ w'.cell? ⟨bs0, fs0 + k, none⟩ = some (.int .i64 zs) ∧ w'.cell? ⟨bt0, ft0 + k, none⟩ = some (.int .i64 zt) ∧ w'.cell? ⟨rr, y, none⟩ = some (.int .i64 zl)) := Lib.hid fun w' hg => by
                have far : ∀ (b j : Nat) (v : Value), wr.cell? ⟨b, j, none⟩ = some v → w'.cell? ⟨b, j, none⟩ = some v := fun b j v hc => (hg.cell_far ⟨b, j, none⟩ (World.block_lt_of_cell? wr _ hc) (by simp)).trans hc
                exact ⟨far _ _ _ v0, far _ _ _ v1, far _ _ _ cs, far _ _ _ ct, far _ _ _ cl⟩
              go_region_held3 (fun w' => w'.cell? ⟨w.heap.size, 0, none⟩ = some (.slice (some ⟨bs0, fs0, none⟩) n c) ∧ w'.cell? ⟨w.heap.size, 1, none⟩ = some (.slice (some ⟨bt0, ft0, none⟩) n' c') ∧ w'.cell? ⟨bs0, fs0 + k, none⟩ = some (.int .i64 zs) ∧ w'.cell? ⟨bt0, ft0 + k, none⟩ = some (.int .i64 zt) ∧ w'.cell? ⟨rr, y, none⟩ = some (.int .i64 zl)) (first | exact KEEP.out | exact HKG.out _ (by repeat (first | exact grown_refl _ _ | refine grown_drew ?_ | refine grown_alloc ?_ _))) (first
                | (refine step_append_view3 rfl (.tmp 65) (.tmp 83) rfl (by rfl) (by rfl) HOU.out (by repeat (first | exact grown_refl _ _ | refine grown_drew ?_ | refine grown_alloc ?_ _)) (by first | exact box9_a _ _ _ _ _ _ _ | exact box9_b _ _ _ _ _ _ _) (by first | exact box9_1 _ _ _ _ _ _ _ | exact box9_2 _ _ _ _ _ _ _ | exact box9_3 _ _ _ _ _ _ _ | exact box9_4 _ _ _ _ _ _ _) (by first | exact box9_1 _ _ _ _ _ _ _ | exact box9_2 _ _ _ _ _ _ _ | exact box9_3 _ _ _ _ _ _ _ | exact box9_4 _ _ _ _ _ _ _) (by simp; omega) (by omega) ?_; intro B9 d9 w9 hou9 hgr9; have HGR := Lib.hid (hgr9.out w5 HH6.out (Nat.le_refl _)); have KEEP := Lib.hid (show w9.cell? ⟨w.heap.size, 0, none⟩ = some (.slice (some ⟨bs0, fs0, none⟩) n c) ∧ w9.cell? ⟨w.heap.size, 1, none⟩ = some (.slice (some ⟨bt0, ft0, none⟩) n' c') ∧ w9.cell? ⟨bs0, fs0 + k, none⟩ = some (.int .i64 zs) ∧ w9.cell? ⟨bt0, ft0 + k, none⟩ = some (.int .i64 zt) ∧ w9.cell? ⟨rr, y, none⟩ = some (.int .i64 zl) from HKL.out _ HGR.out)))
              all_goals
                go_wp2_with fail
                go_roundw
                case rel => exact ⟨y + 1, _, _, _, by omega, by go_num, rfl, hou9, Lib.hid (by rw [List.map_append, HES.out, HLY.out]; rfl), HGR⟩
                case measure => simp [intOf]; omega
            · have g0 : decide ((y : Int) < (L.length : Int)) = false := decide_eq_false (by omega)
              have HYL := Lib.hid (show L.take y = L by rw [show y = L.length by omega]; exact List.take_of_length_le (Nat.le_refl _))
              go_wp2_with fail
              go_ret
              refine ⟨_, _, _, es, rfl, HOU.out.lower (Nat.le_trans HG1.out.size HH5.out.size), ?_, grown_join HG1.out (grown_join HH5.out HH6.out (.inr (by simp))) (.inr (by simp))⟩
              rw [HES.out, HYL.out, HLE.out, HLS.out, HLT2.out, lines_yes HAX.out]
              rfl
end Go.Proofs.Ytdjenakmdjiknaa
end

/-! Layer 8: the numbers of a view as a call takes them. -/
section
namespace Go.Proofs.Ytdjenakmdjiknaa
open Go.ChangeShapes Go.WideShapes Go.ChangeAt Go.RowKit
set_option linter.unusedVariables false
set_option maxRecDepth 100000

/-- the numbers of a view as a call takes them: its two slices, and how long they are. -/
def ViewF (w : World) (A : Option Addr) (n c : Nat) (A' : Option Addr) (n' c' : Nat) (v : Vw) : Prop := NumsF w A n c v.sh ∧ NumsF w A' n' c' v.st ∧ n ≤ 1048576 ∧ n' ≤ 1048576
theorem ViewF.grow {w w' : World} {A A' : Option Addr} {n c n' c' : Nat} {v : Vw} (h : ViewF w A n c A' n' c' v) (hg : w.grownBy w' none) : ViewF w' A n c A' n' c' v := ⟨h.1.grow hg, h.2.1.grow hg, h.2.2⟩
def fitsB (v : Vw) (n : Int) : Bool := rightV v && (!someB v || decide (0 ≤ lowV v ∧ highV v < n))
end Go.Proofs.Ytdjenakmdjiknaa
end

/-! Layer 9: what the walks ask of the program's own view and shape. -/
section
namespace Go.Proofs.Ytdjenakmdjiknaa
open Go.ChangeShapes Go.WideShapes Go.ChangeAt Go.RowKit
set_option linter.unusedVariables false
set_option maxRecDepth 100000

structure ViewSays9 : Prop where
  new : ∀ A n c s w, NumsF w A n c s → n ≤ 1048576 → Calls Try.prog 25 #[.slice A n c] w (GaveVP (newV s) w)
  right : ∀ A n c A' n' c' v w, ViewF w A n c A' n' c' v → I64 v.off → Calls Try.prog 17 #[.agg #[.slice A n c, .slice A' n' c', .int .i64 v.off]] w (TellG (.bool (rightV v)) w)
  offset : ∀ A n c A' n' c' v B m d l w, ViewF w A n c A' n' c' v → I64 v.off → NumsF w B m d l → m ≤ 1048576 → Calls Try.prog 21 #[.agg #[.slice A n c, .slice A' n' c', .int .i64 v.off], .slice B m d] w (TellG (.tuple #[.int .i64 (offV v l), .bool (offB v l)]) w)
  permute : ∀ A n c A' n' c' v B m d q w, ViewF w A n c A' n' c' v → I64 v.off → NumsF w B m d q → m ≤ 1048576 → (∀ z ∈ q, I64 z) → Calls Try.prog 26 #[.agg #[.slice A n c, .slice A' n' c', .int .i64 v.off], .slice B m d] w (GaveVP (permV v q) w)
  place : ∀ A n c A' n' c' s t w, NumsF w A n c s → n ≤ 1048576 → NumsF w A' n' c' t → n' ≤ 1048576 → Calls Try.prog 22 #[.slice A n c, .slice A' n' c'] w (TellG (.tuple #[.int .i64 (placeV s t), .bool (placeB s t)]) w)
end Go.Proofs.Ytdjenakmdjiknaa
end

/-! Layer 9: what the walks ask of the program's own odometer, whatever holds it (T), and of its view; plain: where it stands. -/
section
namespace Go.Proofs.Ytdjenakmdjiknaa
open Go.ChangeShapes Go.WideShapes Go.ChangeAt Go.RowKit
set_option linter.unusedVariables false
set_option maxRecDepth 100000

/-- where the odometer stands: k cells are told; on: Next told one last. -/
def atO (v : Vw) (k : Nat) (on : Bool) : List Int := if on = true then atL v.sh ((k : Int) - 1) else []
/-- what a call leaves that turns nothing of what is older than lo. -/
def Onward (lo : Nat) (w w' : World) : Prop := ∀ u : World, u.grownBy w none → u.heap.size ≤ lo → u.grownBy w' none
theorem Onward.of_grown {lo : Nat} {w w' : World} (h : w.grownBy w' none) : Onward lo w w' := fun u hu _ => grown_join hu h (.inr (by simp))
def NextO (T : World → Nat → Addr → Vw → Nat → Bool → Prop) (lo : Nat) (q : Addr) (v : Vw) (k : Nat) (w : World) (e : Ending) (w' : World) : Prop :=
  Onward lo w w' ∧ ((k < (colL v).length ∧ e = .returned (.tuple #[.int .i64 ((colL v).getD k 0), .bool true]) ∧ T w' lo q v (k + 1) true) ∨ (¬ k < (colL v).length ∧ e = .returned (.tuple #[.int .i64 0, .bool false]) ∧ T w' lo q v k false))
structure OdoSays (T : World → Nat → Addr → Vw → Nat → Bool → Prop) : Prop where
  keep : ∀ {w w' : World} {lo : Nat} {q : Addr} {v : Vw} {k : Nat} {on : Bool}, T w lo q v k on → w.grownBy w' none → T w' lo q v k on
  new : ∀ A n c A' n' c' v w, ViewF w A n c A' n' c' v → I64 v.off → Calls Try.prog 14 #[.agg #[.slice A n c, .slice A' n' c', .int .i64 v.off]] w fun e w' => ∃ q, e = .returned (.pointer (some q)) ∧ T w' w.heap.size q v 0 false ∧ w.grownBy w' none
  next : ∀ lo q v k on w, T w lo q v k on → Calls Try.prog 20 #[.pointer (some q)] w (NextO T lo q v k w)
  at_ : ∀ lo q v k on w, T w lo q v k on → Calls Try.prog 19 #[.pointer (some q)] w (GaveN (atO v k on) w)
  left : ∀ lo q v k on w, T w lo q v k on → Calls Try.prog 15 #[.pointer (some q)] w (TellG (.int .i64 (((colL v).length : Int) - (k : Int))) w)
  next0 : ∀ w, Calls Try.prog 20 #[.pointer none] w (TellG (.tuple #[.int .i64 0, .bool false]) w)
  at0 : ∀ w, Calls Try.prog 19 #[.pointer none] w (GaveN [] w)
  left0 : ∀ w, Calls Try.prog 15 #[.pointer none] w (TellG (.int .i64 0) w)
  collect : ∀ A n c A' n' c' v w, ViewF w A n c A' n' c' v → I64 v.off → Calls Try.prog 12 #[.agg #[.slice A n c, .slice A' n' c', .int .i64 v.off]] w (GaveN (colL v) w)
end Go.Proofs.Ytdjenakmdjiknaa
end
