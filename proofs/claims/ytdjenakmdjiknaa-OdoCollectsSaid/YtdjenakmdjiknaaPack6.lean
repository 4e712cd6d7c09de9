/-
  Texts of this claim, one behind the other.
-/
import Derived.Test.YtdjenakmdjiknaaPack1
import Derived.Test.YtdjenakmdjiknaaPack2
import Derived.Test.YtdjenakmdjiknaaPack3
import Derived.Test.YtdjenakmdjiknaaPack4
import Derived.Test.YtdjenakmdjiknaaPack5

/-! A region that draws its order, whose operations but the last one only read: one walk of the text's order, then the last one by itself; in a round of a range over a function, too. Nothing of the program. -/
section
namespace Go.Proofs.Ytdjenakmdjiknaa
open Go.ChangeShapes Go.WideShapes Go.ChangeAt Go.RowKit
set_option linter.unusedVariables false

section
variable {F : Fence} {n r : Nat} {P : Program} {ops : Array Oper} {md : Region.Mode} {C : World → Prop}
/-- what is waited for, and what that waits for. -/
def ancB (md : Region.Mode) (ops : Array Oper) : Nat → Nat → List Nat
  | 0, k => [k]
  | f + 1, k => k :: (match ops[k]? with
    | none => []
    | some o => (o.after.toList.filter (Region.binds md)).flatMap fun e => ancB md ops f e.on)
def lastFrom (md : Region.Mode) (ops : Array Oper) : Nat → Nat → Array Bool → Bool
  | 0, k, listed => (Region.ready md ops listed == [k]) && (Region.ready md ops (listed.setIfInBounds k true)).isEmpty
  | fuel + 1, k, listed => (Region.ready md ops listed).contains k && Region.free md ops listed k && lastFrom md ops fuel (k + 1) (listed.setIfInBounds k true)
def lastB (md : Region.Mode) (ops : Array Oper) : Bool :=
  Region.noSelect ops && lastFrom md ops (ops.size - 1) 0 (Array.replicate ops.size false) && (List.range (ops.size - 1)).all fun m => (ancB md ops ops.size (ops.size - 1)).contains m
/-- what is listed had nothing to wait for. -/
def Cl (md : Region.Mode) (ops : Array Oper) (listed : Array Bool) : Prop := ∀ k o, ops[k]? = some o → listed.getD k false = true → ∀ e ∈ o.after, Region.binds md e = true → listed.getD e.on false = true
theorem listed_one {listed : Array Bool} {i : Nat} (h : listed.getD i true = false) : listed.getD i false ≠ true := by
  intro h2
  rcases Nat.lt_or_ge i listed.size with h' | h'
  · simp [h'] at h h2; rw [h] at h2; cases h2
  · simp [Array.getElem?_eq_none h'] at h
theorem Cl.start (k : Nat) : Cl md ops (Array.replicate k false) := by
  intro j o _ hj
  exfalso
  rcases Nat.lt_or_ge j k with h | h
  · simp [h] at hj
  · simp [h] at hj
theorem Cl.on {listed : Array Bool} {i : Nat} (h : Cl md ops listed) (hi : i ∈ Region.ready md ops listed) : Cl md ops (listed.setIfInBounds i true) := by
  intro k o ho hk e he hb
  by_cases hki : i = k
  · subst hki
    obtain ⟨_, o', ho', hall⟩ := mem_ready.1 hi
    rw [ho] at ho'
    injection ho' with ho'
    subst ho'
    exact getD_set_true (hall e he hb)
  · rw [getD_set_ne false hki] at hk
    exact getD_set_true (h k o ho hk e he hb)
theorem anc_listed {listed : Array Bool} (h : Cl md ops listed) : ∀ (f k : Nat), listed.getD k false = true → ∀ m ∈ ancB md ops f k, listed.getD m false = true
  | 0, k, hk, m, hm => by
    obtain rfl := List.mem_singleton.1 hm
    exact hk
  | f + 1, k, hk, m, hm => by
    rw [ancB] at hm
    rcases List.mem_cons.1 hm with rfl | hm
    · exact hk
    · cases ho : ops[k]? with
      | none => rw [ho] at hm; cases hm
      | some o =>
        rw [ho] at hm
        obtain ⟨e, he, hme⟩ := List.mem_flatMap.1 hm
        obtain ⟨h1, h2⟩ := List.mem_filter.1 he
        exact anc_listed h f e.on (h k o ho hk e (Array.mem_toList_iff.1 h1) h2) m hme
theorem anc_ready {listed : Array Bool} (h : Cl md ops listed) {f k : Nat} (hk : k ∈ Region.ready md ops listed) : ∀ m ∈ ancB md ops f k, m ≠ k → listed.getD m false = true := by
  intro m hm hne
  obtain ⟨_, o, ho, hall⟩ := mem_ready.1 hk
  cases f with
  | zero => exact absurd (List.mem_singleton.1 hm) hne
  | succ f =>
    rw [ancB, ho] at hm
    rcases List.mem_cons.1 hm with rfl | hm
    · exact absurd rfl hne
    · obtain ⟨e, he, hme⟩ := List.mem_flatMap.1 hm
      obtain ⟨h1, h2⟩ := List.mem_filter.1 he
      exact anc_listed h f e.on (hall e (Array.mem_toList_iff.1 h1) h2) m hme

/-- whatever order is picked from here on, till the last one alone is left. -/
def wpAnyL (F : Fence) (n : Nat) (P : Program) (md : Region.Mode) (ops : Array Oper) (C : World → Prop) (N : Nat) (Qb : Act → Prop) : Nat → Array Bool → Act → Prop
  | 0, listed, a => Region.ready md ops listed = [N] ∧ Region.ready md ops (listed.setIfInBounds N true) = [] ∧ Qb a
  | fuel + 1, listed, a => Region.ready md ops listed ≠ [] ∧ ∀ i ∈ Region.ready md ops listed, i ≠ N ∧ qOpIn F n P ops C i (wpAnyL F n P md ops C N Qb fuel (listed.setIfInBounds i true)) a

theorem wpAnyL_first {N : Nat} {Qb : Act → Prop} {i : Nat} {oi : Oper} {v : Value} (hi : ops[i]? = some oi) (hsel : ∀ (j : Nat) (o : Oper) cs b, ops[j]? = some o → o.op ≠ .select cs b)
    (hN : ∀ listed, Cl md ops listed → N ∈ Region.ready md ops listed → ∀ m, m < N → listed.getD m false = true) (hiN : i < N) :
    ∀ (fuel : Nat) (listed : Array Bool) (a : Act), Cl md ops listed →
      (∀ j oj, ops[j]? = some oj → j ≠ i → listed.getD j true = false → (∀ e ∈ oj.after, Region.binds md e = true → e.on ≠ i) → oi.apart ops oj = true) →
      i ∈ Region.ready md ops listed → YieldsQuiet F n P ops C oi v a →
      wpAnyL F n P md ops C N Qb fuel (listed.setIfInBounds i true) (a.put oi.dst v) → wpAnyL F n P md ops C N Qb (fuel + 1) listed a := by
  intro fuel
  induction fuel with
  | zero =>
    intro listed a hcl _ hr hy H
    have hn : ∀ j ∈ Region.ready md ops listed, j ≠ N := fun j hj e => listed_one (mem_ready.1 hr).1 (hN listed hcl (by rw [← e]; exact hj) i hiN)
    refine ⟨fun h => (by rw [h] at hr; cases hr), fun j hj => ⟨hn j hj, ?_⟩⟩
    by_cases hji : j = i
    · subst hji; exact hy.qOpIn hi H
    · have := ready_mono hj hji
      rw [H.1] at this
      exact absurd (List.mem_singleton.1 this) (hn j hj)
  | succ fuel ih =>
    intro listed a hcl hfree hr hy H
    have hn : ∀ j ∈ Region.ready md ops listed, j ≠ N := fun j hj e => listed_one (mem_ready.1 hr).1 (hN listed hcl (by rw [← e]; exact hj) i hiN)
    refine ⟨fun h => (by rw [h] at hr; cases hr), fun j hj => ⟨hn j hj, ?_⟩⟩
    by_cases hji : j = i
    · subst hji; exact hy.qOpIn hi H
    · have h1 := (H.2 j (ready_mono hj hji)).2
      obtain ⟨hjun, oj, hoj, hall⟩ := mem_ready.1 hj
      have hnot : ∀ e ∈ oj.after, Region.binds md e = true → e.on ≠ i := fun e he hb heq => by
        have h1 := hall e he hb
        rw [heq] at h1
        exact listed_one (mem_ready.1 hr).1 h1
      have h2 := qOpIn_put hoj (hfree j oj hoj hji hjun hnot) (fun cs b => hsel i oi cs b hi) (fun cs b => hsel j oj cs b hoj) hy h1
      have hfree' : ∀ k ok, ops[k]? = some ok → k ≠ i → (listed.setIfInBounds j true).getD k true = false →
          (∀ e ∈ ok.after, Region.binds md e = true → e.on ≠ i) → oi.apart ops ok = true := fun k ok hk hki hun hno => by
        refine hfree k ok hk hki ?_ hno
        by_cases hjk : j = k
        · subst hjk; exact hjun
        · rw [getD_set_ne true hjk] at hun; exact hun
      refine qOpIn_mono (fun a' h3 => ih (listed.setIfInBounds j true) a' (hcl.on hj) hfree' (ready_mono hr (Ne.symm hji)) h3.1 ?_) h2
      rw [Array.setIfInBounds_comm _ _ hji]
      exact h3.2
theorem wpAnyL_lex {N : Nat} {Qb : Act → Prop} (hs : Region.noSelect ops = true) (hN : ∀ listed, Cl md ops listed → N ∈ Region.ready md ops listed → ∀ m, m < N → listed.getD m false = true) :
    ∀ (l : List Oper) (k : Nat) (listed : Array Bool) (a : Act), k + l.length = N → (∀ j, j < l.length → l[j]? = ops[k + j]?) → Cl md ops listed →
    lastFrom md ops l.length k listed = true → wpQuietIn F n P ops C Qb l a → wpAnyL F n P md ops C N Qb l.length listed a
  | [], k, listed, a, hk, _, _, hB, h => by
    simp only [List.length_nil, Nat.add_zero] at hk
    subst hk
    simp only [List.length_nil, lastFrom, Bool.and_eq_true, beq_iff_eq, List.isEmpty_iff] at hB
    exact ⟨hB.1, hB.2, h⟩
  | o :: l, k, listed, a, hk, hl, hcl, hB, h => by
    have h0 : ops[k]? = some o := by have := hl 0 (by simp); simpa using this.symm
    simp only [List.length_cons, lastFrom, Bool.and_eq_true] at hB
    obtain ⟨⟨hr, hf⟩, hB'⟩ := hB
    have hr : k ∈ Region.ready md ops listed := by simpa using hr
    have hst : qOpIn F n P ops C k (wpQuietIn F n P ops C Qb l) a := by unfold qOpIn; simp only [h0]; exact h
    obtain ⟨v, hy, hK⟩ := yieldsQuiet_of_qOpIn h0 hst
    simp only [List.length_cons] at hk
    exact wpAnyL_first h0 (Region.noSelect_spec hs) hN (by omega) l.length listed a hcl (Region.free_spec h0 hf) hr hy
      (wpAnyL_lex hs hN l (k + 1) _ _ (by omega) (fun j hj => by have := hl (j + 1) (by simp; omega); simpa [Nat.add_assoc, Nat.add_comm 1 j] using this) (hcl.on hr) hB' hK)
theorem wpAnyIn_of_L {Q : Exit → Act → World → Prop} {N : Nat} {Qb : Act → Prop} {o : Oper} (hro : F.round = none) (ho : ops[N]? = some o) (hQ : ∀ a w, C w → Qb a → wpListIn F n P ops Q [o] a w) :
    ∀ (fuel : Nat) (listed : Array Bool) (a : Act) (w : World), C w → wpAnyL F n P md ops C N Qb fuel listed a → wpAnyIn F n P md ops Q (fuel + 1) listed a w
  | 0, listed, a, w, hw, H => by
    refine ⟨fun h => (by rw [H.1] at h; cases h), fun i hi => ?_⟩
    rw [H.1] at hi
    obtain rfl := List.mem_singleton.1 hi
    have hq := hQ a w hw H.2.2
    simp only [wpListIn] at hq
    unfold wpOpIn
    simp only [ho]
    by_cases hwt : Region.wanted o (yielded ops a.tmps) = true
    · simp only [hwt, if_true] at hq ⊢
      exact Oper.wpIn_mono (fun a w h => ⟨H.2.1, h⟩) hq
    · simp only [hwt] at hq ⊢
      exact ⟨hq.1, H.2.1, hq.2⟩
  | fuel + 1, listed, a, w, hw, H =>
    ⟨fun h => absurd h H.1, fun i hi => wpOpIn_of_qOpIn hro hw (fun a' w' hw' => wpAnyIn_of_L hro ho hQ fuel _ a' w' hw') (H.2 i hi).2⟩
def aheadL : List Oper → List Oper
  | [] => []
  | [_] => []
  | a :: b :: l => a :: aheadL (b :: l)
def lastL : List Oper → List Oper
  | [] => []
  | [o] => [o]
  | _ :: b :: l => lastL (b :: l)
theorem ahead_last : ∀ (L : List Oper), L ≠ [] → ∃ o, lastL L = [o] ∧ L = aheadL L ++ [o]
  | [], h => absurd rfl h
  | [o], _ => ⟨o, rfl, rfl⟩
  | a :: b :: l, _ => by
    obtain ⟨o, h1, h2⟩ := ahead_last (b :: l) (by simp)
    exact ⟨o, h1, by rw [aheadL, List.cons_append, ← h2]⟩
theorem any_last {Q : Exit → Act → World → Prop} {a : Act} {w : World} {L : List Oper} (hro : F.round = none) (hne : L ≠ []) (hB : lastB .any L.toArray = true)
    (h : wpQuietIn F n P L.toArray (fun w' => ∃ k, w' = w.drewN k) (fun a' => ∀ w', (∃ k, w' = w.drewN k) → wpListIn F n P L.toArray Q (lastL L) a' w') (aheadL L) a) :
    wpAnyIn F n P .any L.toArray Q L.toArray.size (Array.replicate L.toArray.size false) a { w with drawn := w.drawn + 1 } := by
  obtain ⟨o, h1, h2⟩ := ahead_last L hne
  rw [h1] at h
  have hlen : L.length = (aheadL L).length + 1 := by
    have := congrArg List.length h2
    simpa using this
  simp only [lastB, Bool.and_eq_true, List.size_toArray] at hB
  obtain ⟨⟨hs, hf⟩, hall⟩ := hB
  have hN : ∀ listed, Cl .any L.toArray listed → (aheadL L).length ∈ Region.ready .any L.toArray listed → ∀ m, m < (aheadL L).length → listed.getD m false = true := by
    intro listed hcl hr m hm
    have := List.all_eq_true.1 hall m (List.mem_range.2 (by omega))
    have hm2 : m ∈ ancB .any L.toArray L.length (L.length - 1) := by simpa using this
    rw [show L.length - 1 = (aheadL L).length by omega] at hm2
    exact anc_ready hcl hr m hm2 (by omega)
  have hL : ∀ j, L.toArray[j]? = (aheadL L ++ [o])[j]? := fun j => by rw [List.getElem?_toArray, ← h2]
  have ho : L.toArray[(aheadL L).length]? = some o := by rw [hL, List.getElem?_append_right (Nat.le_refl _), Nat.sub_self]; rfl
  rw [show L.toArray.size = (aheadL L).length + 1 by simpa using hlen]
  refine wpAnyIn_of_L (N := (aheadL L).length) (C := fun w' => ∃ k, w' = w.drewN k) (Qb := fun a' => ∀ w', (∃ k, w' = w.drewN k) → wpListIn F n P L.toArray Q [o] a' w') hro ho (fun a w' hw' hq => hq w' hw') _ _ _ _ ⟨1, rfl⟩ ?_
  refine wpAnyL_lex hs hN (aheadL L) 0 _ a (by simp) (fun j hj => ?_) (Cl.start _) ?_ h
  · rw [Nat.zero_add, hL, List.getElem?_append_left hj]
  · rw [← hlen]
    rw [show L.length - 1 = (aheadL L).length by omega] at hf
    exact hf
theorem region_last {id : Nat} {Q : Exit → Act → World → Prop} {a : Act} {w : World} {L : List Oper} (hro : F.round = none) (hm : P.follows .mixedOrders = true) (hne : L.isEmpty = false) (hB : lastB .any L.toArray = true)
    (h : wpQuietIn F n P L.toArray (fun w' => ∃ k, w' = w.drewN k) (fun a' => ∀ w', (∃ k, w' = w.drewN k) → wpListIn F n P L.toArray Q (lastL L) a' w') (aheadL L) a) : (Code.region id L.toArray true).wpIn F n P Q a w :=
  wpIn_region_any hm (any_last hro (by intro e; subst e; cases hne) hB h)
theorem region_last_round {id : Nat} {Q : Exit → Act → World → Prop} {a : Act} {w : World} {L : List Oper} (hro : F.round = none) (hm : P.follows .mixedOrders = true) (hne : L.isEmpty = false) (hB : lastB .any L.toArray = true) (hd : noDefer L = true)
    (h : wpQuietIn F n P L.toArray (fun w' => ∃ k, w' = w.drewN k) (fun a' => ∀ w', (∃ k, w' = w.drewN k) → wpListIn F n P L.toArray Q (lastL L) a' w') (aheadL L) a) : (Code.region id L.toArray true).wpIn (F.inRound r) n P Q a w :=
  wpIn_region_any hm (wpAnyIn_round (noDefer_spec hd) _ _ _ _ (any_last hro (by intro e; subst e; cases hne) hB h))
end
end Go.Proofs.Ytdjenakmdjiknaa
end

/-! Layer 9: the walk of OdoCollects, out of what is asked of the program's own odometer. -/
section
namespace Go.Proofs.Ytdjenakmdjiknaa
open Go.ChangeShapes Go.WideShapes Go.ChangeAt Go.RowKit Go.Shelf
set_option linter.unusedVariables false
set_option maxRecDepth 100000
attribute [local go_sem] Oper.semAt_some

theorem wide_fn9 (f : FuncId) : Fence.wide.fn f := trivial
attribute [local go_sem] wide_fn9
theorem boxes_two9 (w : World) (t1 t2 : TypeId) (a b : Array Value) : Box ((w.alloc (.cells a t1)).alloc (.cells b t2)) w.heap.size t1 a ∧ Box ((w.alloc (.cells a t1)).alloc (.cells b t2)) (w.heap.size + 1) t2 b ∧ w.grownBy ((w.alloc (.cells a t1)).alloc (.cells b t2)) none :=
  ⟨(Box.fresh w t1 a).alloc _, box_second9 w t1 t2 a b, grown_alloc (World.grownBy_alloc w _ none) _⟩
theorem lines_small9 (v : Vw) (i : Int) : (linesL v i).length ≤ 1048576 := by
  unfold linesL
  split
  · exact col_small _
  · simp
theorem take_lastI {zs pre : List Int} {x : Int} {k : Nat} (h : zs.take k = pre ++ [x]) : x = zs.getD pre.length 0 := by
  have hl := congrArg List.length h
  rw [List.length_take, List.length_append, List.length_singleton] at hl
  have h1 : (zs.take k)[pre.length]? = some x := by rw [h]; simp
  rw [List.getElem?_take_of_lt (by omega)] at h1
  simp [List.getD, h1]
theorem box_turn9 {w : World} {b k : Nat} {t : TypeId} {cs : Array Value} {o : Obj} (h : Box w b t cs) (ho : w.heap[k]? = some o) (hc : o.isCells = false) (o' : Obj) : Box (w.putObj k o') b t cs := by
  have hne : b ≠ k := fun e => by
    subst e
    unfold Box at h
    rw [h] at ho
    injection ho with ho
    subst ho
    cases hc
  exact (World.putObj_heap_other hne).trans h
theorem flat_get9 {es : List (Nat × Nat × Int)} {j r : Nat} (hj : j < es.length) (hr : r < 3) : (es.flatMap elV)[j * 3 + r]? = (elV (es.getD j (0, 0, 0)))[r]? := by
  induction es generalizing j with
  | nil => simp at hj
  | cons e es ih =>
    rw [List.flatMap_cons]
    cases j with
    | zero => rw [List.getElem?_append_left (by simp [elV]; omega)]; simp [List.getD]
    | succ j =>
      rw [List.getElem?_append_right (by simp [elV]; omega)]
      have h1 : (j + 1) * 3 + r - (elV e).length = j * 3 + r := by simp [elV]; omega
      rw [h1, ih (by simp at hj; omega)]
      simp [List.getD]
/-- the jth of the views told lies where it lies. -/
theorem out_cells9 {w : World} {base : Nat} {sh st : Int} {B : Option Addr} {y d : Nat} {es : List (Nat × Nat × Int)} (h : OutI w base sh st B y d es) {j : Nat} (hj : j < y) : ∃ g p q z, B = some ⟨g, 0, none⟩ ∧ g < w.heap.size ∧ (es.map fun e => e.2.2).getD j 0 = z ∧ w.cell? ⟨g, j * 3, none⟩ = some (.slice (some ⟨p, 0, none⟩) 1 1) ∧ w.cell? ⟨g, j * 3 + 1, none⟩ = some (.slice (some ⟨q, 0, none⟩) 1 1) ∧ w.cell? ⟨g, j * 3 + 2, none⟩ = some (.int .i64 z) ∧ Box w p 3 #[.int .i64 sh] ∧ Box w q 3 #[.int .i64 st] := by
  obtain ⟨g, rfl, hg, _⟩ := own_form h.own (by omega)
  have hl := h.len
  have hm : es.getD j (0, 0, 0) ∈ es := by
    have hj' : j < es.length := by omega
    simp [List.getD, hj']
  have hc : ∀ r, r < 3 → w.cell? ⟨g, j * 3 + r, none⟩ = (elV (es.getD j (0, 0, 0)))[r]? := fun r hr => (h.own.cellAt _ (by omega)).trans (flat_get9 (by omega) hr)
  refine ⟨g, _, _, _, rfl, (h.own.lt g rfl).2, ?_, hc 0 (by omega), hc 1 (by omega), hc 2 (by omega), (h.at_ _ hm).1, (h.at_ _ hm).2⟩
  have hj' : j < es.length := by omega
  simp [List.getD, hj']
theorem take_onI {L : List Int} {pre : List LineZ} {x : LineZ} (hp : pre.map LineZ.off = L.take pre.length) (hlt : pre.length < L.length) (hx : x.off = L.getD pre.length 0) : (pre ++ [x]).map LineZ.off = L.take (pre ++ [x]).length ∧ (pre ++ [x]).length ≤ L.length := by
  rw [List.length_append, List.length_singleton, List.map_append, hp]
  refine ⟨?_, hlt⟩
  rw [List.take_succ_eq_append_getElem hlt]
  simp [hx, List.getD, hlt]
theorem keeps_drewN9 (W : World) (q B : Nat) (a : Addr) (v : Value) : KeepsFrom B W ((W.drewN q).setCell a v) := ((show KeepsOthers W (W.drewN q) from ⟨Nat.le_refl _, fun _ _ h _ => h⟩).trans (KeepsOthers.setCell _ _ _)).from _
theorem box_drewN9 {W : World} {b : Nat} {t : TypeId} {cs : Array Value} (h : Box W b t cs) (q : Nat) : Box (W.drewN q) b t cs := h
/-- a function is left behind two ranges: its answer lies in the box at b. -/
theorem leave_two9 {fn : Func} {tmps : Array Value} {D D2 b : Nat} {w W3 wm : World} (h1 : W3.heap[D]? = some (.deferred (some []))) (h2 : W3.heap[D2]? = some (.deferred (some []))) (n12 : D ≠ D2)
    (hg : W3.grownBy wm none) (hb : Box wm b 4 #[.bool false]) (hw : w.grownBy wm none) (hb0 : w.heap.size ≤ b) (hD : w.heap.size ≤ D ∧ w.heap.size ≤ D2)
    (hr : ∀ W9 : World, W9.cell? ⟨b, 0, none⟩ = some (.bool true) → (results fn tmps).run Try.prog W9 = .ok (.bool true) W9) :
    LeavesInM Fence.wide 9 Try.prog fn tmps (TellG (.bool true) w) ({ target := .collected D2, args := #[] } :: { target := .collected D, args := #[] } :: []) .returning (wm.setCell ⟨b, 0, none⟩ (.bool true)) := by
  have k : ∀ E, W3.heap[E]? = some (.deferred (some [])) → E ≠ b ∧ (wm.setCell ⟨b, 0, none⟩ (.bool true)).heap[E]? = some (.deferred (some [])) := fun E hE => by
    have h4 : wm.heap[E]? = some (.deferred (some [])) := (hg.block E (Array.getElem?_eq_some_iff.1 hE).1 (by simp)).trans hE
    have hne : E ≠ b := fun e => by
      subst e
      unfold Box at hb
      rw [hb] at h4
      cases h4
    exact ⟨hne, by simp [World.setCell, Array.getElem?_modify, Ne.symm hne]; exact h4⟩
  have hbb := hb.put 0 (.bool true)
  refine leave_one9 (k D2 h2).2 (leave_one9 (put_obj9 (k D h1).2 n12) ?_)
  have hc : Box (((wm.setCell ⟨b, 0, none⟩ (.bool true)).putObj D2 (.deferred none)).putObj D (.deferred none)) b 4 #[.bool true] := put_obj9 (put_obj9 hbb (Ne.symm (k D2 h2).1)) (Ne.symm (k D h1).1)
  refine ⟨.bool true, hr _ (cells_one9 hc).1, rfl, ?_⟩
  exact grown_join (grown_join (grown_put hw (.inr hb0) _) (grownBy_putObj' _ D2 _) (.inr fun z e => by injection e with e; omega)) (grownBy_putObj' _ D _) (.inr fun z e => by injection e with e; omega)
theorem box_nums9 {w : World} {p : Nat} {z : Int} (h : Box w p 3 #[.int .i64 z]) (q : Nat) : Nums (w.drewN q) (w.drewN q).heap.size (some ⟨p, 0, none⟩) 1 [z] :=
  ⟨rfl, fun _ => ⟨p, 0, rfl, h.small, fun k hk => by
    obtain rfl : k = 0 := by omega
    exact h.get 0⟩⟩
/-- the lists of one number each are found the same, whatever has been drawn. -/
theorem ints_one9 {w : World} {A : Option Addr} {p c : Nat} {z : Int} (h : Nums w w.heap.size A 1 [z]) (hb : Box w p 3 #[.int .i64 z]) (q n : Nat) :
    CallsIn Fence.wide n Try.prog 11 #[.slice A 1 c, .slice (some ⟨p, 0, none⟩) 1 1] (w.drewN q) fun e w'' => e = .returned (.bool true) ∧ ∃ m, w'' = w.drewN m :=
  (callsIn_wide).2 ((ints9_any A (some ⟨p, 0, none⟩) 1 1 c 1 [z] [z] _ _ (w.drewN q) (h.grow (grown_drewN (grown_refl w none) q)) (box_nums9 hb q) (by omega) (by omega)).mono (by
    rintro e w'' ⟨rfl, m, rfl⟩
    exact ⟨by rw [decide_eq_true rfl], q + m, World.drewN_drewN _ _ _⟩))
set_option maxHeartbeats 8000000 in
theorem odoCollects_any {T : World → Nat → Addr → Vw → Nat → Bool → Prop} (V : ViewSays9) (S : OdoSays T) (LS : LinesSay) (A A' : Option Addr) (n c n' c' : Nat) (s t : List Int) (o i : Int) (w : World) (h : NumsF w A n c s) (h' : NumsF w A' n' c' t) (ho : I64 o) (hi : I64 i) :
    Calls Try.prog 3 #[.agg #[.slice A n c, .slice A' n' c', .int .i64 o], .int .i64 i] w (TellG (.bool true) w) := by
  have HK := Lib.hid (fun w' => knows9_any V S w')
  have HLI := Lib.hid (fun w' (hg : w.grownBy w' none) => light9_any A A' n c n' c' s t o w' (h.grow hg) (h'.grow hg))
  have HLS := Lib.hid LS
  have HS := Lib.hid S
  obtain ⟨w1, hw1⟩ : ∃ w1, w1 = (w.alloc (.cells #[.slice A n c, .slice A' n' c', .int .i64 o] 24)).alloc (.cells #[.bool false] 4) := ⟨_, rfl⟩
  have hb := boxes_two9 w 24 4 #[.slice A n c, .slice A' n' c', .int .i64 o] #[.bool false]
  rw [← hw1] at hb
  obtain ⟨hb1, hb3, hg1⟩ := hb
  have HB1 := Lib.hid hb1
  have HBR := Lib.hid hb3
  have HG1 := Lib.hid hg1
  have HW1 := Lib.hid hw1
  have HC1 := Lib.hid (fun w' (hg : w1.grownBy w' none) => cells_three9 (hb1.grown hg (by simp)))
  have HCR := Lib.hid (fun w' (hg : w1.grownBy w' none) => cells_one9 (hb3.grown hg (by simp)))
  clear hw1 hb1 hb3 hg1
  cases hlb : lightB ⟨s, t, o⟩ 400 with
  | false =>
    have HLB := Lib.hid hlb
    clear hlb
    refine (callsIn_wide (n := 9)).1 ?_
    refine callsIn_of_wp_marks Try.func3 rfl trivial ?_ rfl
    refine wpIn_wide.2 ?_
    simp only [Try.ntmps3, List.size_toArray, List.length_cons, List.length_nil, Nat.reduceAdd, Nat.reduceSub, Array.replicate_succ, Array.replicate_zero, List.push_toArray, List.append_toArray, List.nil_append, List.cons_append]
    go_upto_region 1 with fail
    rw [← HW1.out]
    obtain ⟨x0, x1, x2⟩ := HC1.out _ (grown_refl w1 none)
    go_wp2_with fail
    refine (HLI.out _ HG1.out).mono ?_
    rintro e w2 ⟨rfl, hg⟩
    rw [HLB.out]
    have HG2 := Lib.hid hg
    clear hg x0 x1 x2
    go_wp2_with fail
    refine (HK.out _).mono ?_
    rintro e w4 ⟨rfl, hg⟩
    have HG4 := Lib.hid (grown_join HG2.out hg (.inr (by simp)))
    clear hg
    obtain ⟨r0, r1⟩ := HCR.out _ HG4.out
    have e0 := (cells_one9 ((HBR.out.grown HG4.out (by simp)).put 0 (.bool true))).1
    go_wp2_with fail
    exact ⟨.bool true, by simp [results, Try.results3, go_sem, e0], rfl, grown_put (grown_join HG1.out HG4.out (.inr (by simp))) (.inr (by omega)) _⟩
  | true =>
    have HLB := Lib.hid hlb
    have hn : n ≤ 1048576 ∧ n' ≤ 1048576 := by have h1 := light_len9 hlb; have h2 := h.len; have h3 := h'.len; omega
    have HF : Hid (∀ w', w.grownBy w' none → ViewF w' A n c A' n' c' ⟨s, t, o⟩) := Lib.hid fun w' hg => ⟨h.grow hg, h'.grow hg, hn.1, hn.2⟩
    have HRL := Lib.hid (fun w' (hg : w.grownBy w' none) => ref9Lines_any A A' n c n' c' s t o i w' (h.grow hg) (h'.grow hg) hn.1 hn.2)
    have HOW := Lib.hid (fun w' => own8_any A A' n c n' c' o w')
    have HLL := Lib.hid (fun w' (hg : w.grownBy w' none) => HLS.out.lines A n c A' n' c' ⟨s, t, o⟩ i w' (HF.out w' hg) ho hi)
    clear hlb
    refine (callsIn_wide (n := 9)).1 ?_
    refine callsIn_of_wp_marks Try.func3 rfl trivial ?_ rfl
    refine wpIn_wide.2 ?_
    simp only [Try.ntmps3, List.size_toArray, List.length_cons, List.length_nil, Nat.reduceAdd, Nat.reduceSub, Array.replicate_succ, Array.replicate_zero, List.push_toArray, List.append_toArray, List.nil_append, List.cons_append]
    go_upto_region 1 with fail
    rw [← HW1.out]
    obtain ⟨x0, x1, x2⟩ := HC1.out _ (grown_refl w1 none)
    go_wp2_with fail
    refine (HLI.out _ HG1.out).mono ?_
    rintro e w2 ⟨rfl, hg⟩
    rw [HLB.out]
    have HG2 := Lib.hid hg
    clear hg x0 x1 x2
    go_wp2_with fail
    refine (HK.out _).mono ?_
    rintro e w4 ⟨rfl, hg⟩
    have HG4 := Lib.hid (grown_join HG2.out hg (.inr (by simp)))
    have HGW4 := Lib.hid (grown_join HG1.out HG4.out (.inr (by simp)))
    clear hg
    go_upto_region 3 with fail
    obtain ⟨x0, x1, x2⟩ := HC1.out _ HG4.out
    go_wp2_with fail
    refine (HRL.out _ HGW4.out).mono ?_
    rintro e w5 ⟨B, m, d, es, rfl, hout, hes, hg⟩
    have HOUT := Lib.hid hout
    have HES := Lib.hid hes
    have HG5 := Lib.hid (grown_join HG4.out hg (.inr (by simp)))
    have HGW5 := Lib.hid (grown_join HG1.out HG5.out (.inr (by simp)))
    have HG45 := Lib.hid hg
    clear hg hout hes x0 x1 x2
    go_upto_region 5 with fail
    obtain ⟨w6, hw6⟩ : ∃ w6, w6 = (w5.alloc (.cells #[.slice B m d] 27)).alloc (.cells #[.int .i64 0] 3) := ⟨_, rfl⟩
    rw [← hw6]
    have hb6 := boxes_two9 w5 27 3 #[.slice B m d] #[.int .i64 0]
    rw [← hw6] at hb6
    obtain ⟨hbl, hbn, hg56⟩ := hb6
    have HBL := Lib.hid hbl
    have HBN := Lib.hid hbn
    have HG56 := Lib.hid hg56
    have HG6 := Lib.hid (grown_join HG5.out hg56 (.inr (by simp)))
    have HGW6 := Lib.hid (grown_join HG1.out HG6.out (.inr (by simp)))
    clear hw6 hbl hbn hg56
    obtain ⟨L, hL⟩ : ∃ L, linesL ⟨s, t, o⟩ i = L := ⟨_, rfl⟩
    have HL := Lib.hid hL
    have hL8 : L.length ≤ 1048576 := by rw [← hL]; exact lines_small9 _ _
    have HL8 := Lib.hid hL8
    have hm : m = L.length := by
      have h1 := HOUT.out.len
      have h2 := congrArg List.length HES.out
      rw [List.length_map, hL] at h2
      omega
    subst hm
    clear hL hL8
    obtain ⟨x0, x1, x2⟩ := HC1.out _ HG6.out
    go_wp2_with fail
    refine (HOW.out _).mono ?_
    rintro e w7 ⟨rfl, hg⟩
    have HG67 := Lib.hid hg
    have HG7 := Lib.hid (grown_join HG6.out hg (.inr (by simp)))
    have HGW7 := Lib.hid (grown_join HG1.out HG7.out (.inr (by simp)))
    clear hg x0 x1 x2
    go_wp2_with fail
    refine (HLL.out _ HGW7.out).mono ?_
    rintro e w8 ⟨hg, gf, lb, rfl, hplain, hseq⟩
    rw [HL.out] at hseq
    dsimp only at hseq
    have HPLN := Lib.hid hplain
    have HSEQ := Lib.hid hseq
    have HG78 := Lib.hid hg
    have HG8 := Lib.hid (grown_join HG7.out hg (.inr (by simp)))
    clear hg hplain hseq
    go_wp2_with fail
    have HTN := Lib.hid (show w.heap.size + 1 < w1.heap.size ∧ w1.heap.size ≤ w5.heap.size ∧ w5.heap.size + 1 < w6.heap.size ∧ w6.heap.size ≤ w7.heap.size ∧ w7.heap.size ≤ w8.heap.size from ⟨HBR.out.small, HG5.out.size, HBN.out.small, HG67.out.size, HG78.out.size⟩)
    have HXX : Hid (∀ x, (x = w5.heap.size + 1 ∨ x = w.heap.size + 1) → x < w7.heap.size ∧ Clear A n A' n' x) := Lib.hid (by
      have h1 := HTN.out
      rintro x (rfl | rfl)
      · exact ⟨by omega, clear_new (HF.out w (grown_refl _ _)) (by omega)⟩
      · exact ⟨by omega, clear_new (HF.out w (grown_refl _ _)) (by omega)⟩)
    have HSX := Lib.hid (HSEQ.out 8 w8 (fun x => x = w5.heap.size + 1 ∨ x = w.heap.size + 1) (by omega) (grown_refl _ _) HXX.out)
    have HBN8 := Lib.hid ((HBN.out.grown HG67.out (by simp)).grown HG78.out (by simp))
    refine (wpIn_wide (n := 9)).1 ?_
    refine range_round (by omega) (gf := gf) (lb := lb) rfl HPLN.out HSX.out (fun h1 h2 => keepX_t h1 h2) (fun W l o o' h1 h2 h3 h4 => keepX_b W l o o' h1 h2 h3 h4) (fun x W l o o' h1 h2 h3 => line_put x W l o o' h1 h2 h3) (fun _ => rfl) (fun x W W' h1 h2 => ViewF.grow h1 h2) (fun W W' h1 => keepX_grown h1)
      (fun pre W => pre.map LineZ.off = L.take pre.length ∧ pre.length ≤ L.length ∧ Box W (w5.heap.size + 1) 3 #[.int .i64 (pre.length : Nat)] ∧ w8.grownBy W (some (w5.heap.size + 1)))
      (fun c pre W => c = .ret ∧ ∃ (pre' : List LineZ) (x : LineZ), pre = pre' ++ [x] ∧ ¬ (x.off = L.getD pre'.length 0))
      (fun pre Wa Wb row hs hg hr => ⟨hs.1, hs.2.1, hs.2.2.1.grown hg (fun e => by have h1 := (hr _ e.symm).1; have h2 := HTN.out; omega), grown_join hs.2.2.2 hg (.inr fun z e => (hr z e).1)⟩)
      (fun c pre Wa Wb row hs hg hr => hs) ⟨rfl, Nat.zero_le _, HBN8.out, grown_more (grown_refl _ _) _⟩ ?round ?done ?stop
    case round =>
      rintro l pre x W ⟨hp, hpl, hb, hg⟩ hR hlt
      dsimp only [encZ]
      gi_wp2
      refine ⟨World.grownBy_alloc _ _ _, ?_⟩
      rintro W2 k9 o9 o9' hk9 hc9 hW2 ⟨hp2, hpl2, hb2, hg2⟩ hR2
      have hx : Box W2 W.heap.size 34 #[.slice x.A 1 x.c, .slice x.B 1 x.d, .int .i64 x.off] := by rw [hW2]; exact box_turn9 (Box.fresh W _ _) hk9 hc9 o9'
      clear hk9 hc9 hW2 hp hpl hb hg hR
      have hsz := HTN.out
      have hgt6 : w6.grownBy W2 (some (w5.heap.size + 1)) := grown_join (grown_more (grown_join HG67.out HG78.out (.inr (by simp))) _) hg2 (.inl rfl)
      have hgt5 : w5.grownBy W2 (some (w5.heap.size + 1)) := grown_join (grown_more HG56.out _) hgt6 (.inl rfl)
      have hgt1 : w1.grownBy W2 (some (w5.heap.size + 1)) := grown_join (grown_more HG5.out _) hgt5 (.inl rfl)
      have hbl2 := HBL.out.grown hgt6 (fun e => by injection e with e; omega)
      have hbr2 := HBR.out.grown hgt1 (fun e => by injection e with e; omega)
      obtain ⟨g, p, q, z, rfl, hgb, hz, c0, c1, c2, bp, bq⟩ := out_cells9 HOUT.out (j := pre.length) hlt
      have far : ∀ (r : Nat) (u : Value), w5.cell? ⟨g, r, none⟩ = some u → W2.cell? ⟨g, r, none⟩ = some u := fun r u hu => (hgt5.cell_far ⟨g, r, none⟩ hgb (fun e => by injection e with e; have e' : g = w5.heap.size + 1 := e; omega)).trans hu
      replace c0 := far _ _ c0
      replace c1 := far _ _ c1
      replace c2 := far _ _ c2
      replace bp := bp.grown hgt5 (fun e => by have := bp.small; injection e with e; omega)
      replace bq := bq.grown hgt5 (fun e => by have := bq.small; injection e with e; omega)
      have HI1 := Lib.hid (ints_one9 (c := x.c) hR2.1.1 bp)
      have HI2 := Lib.hid (ints_one9 (c := x.d) hR2.2.1.1 bq)
      rw [HES.out, HL.out] at hz
      have HZ := Lib.hid hz
      have HP2 := Lib.hid hp2
      have HG2' := Lib.hid hg2
      have HB2' := Lib.hid hb2
      have HHL := Lib.hid hlt
      have v0 := hx.get 0
      have v1 := hx.get 1
      have v2 := hx.get 2
      have b0 := hbl2.get 0
      have n0 := hb2.get 0
      have nf := hb2.free 0
      have r0 := hbr2.get 0
      have rf := hbr2.free 0
      have hL8 := HL8.out
      obtain ⟨j, hj⟩ : ∃ j, pre.length = j := ⟨_, rfl⟩
      have HJ := Lib.hid hj
      rw [hj] at c0 c1 c2 n0 hlt HB2'
      have d0 : decide ((L.length : Int) ≤ (j : Int)) = false := decide_eq_false (by omega)
      have d1 : decide (L.length ≤ j) = false := decide_eq_false (by omega)
      have d2 : decide ((j : Int) < 0) = false := decide_eq_false (by omega)
      have d3 : ((j : Int) < (L.length : Int)) := by omega
      have w0 : IntKind.i64.wrap ((j : Int) + 1) = (j : Int) + 1 := IntWalk.i64_in _ (by omega)
      have w1' : wrap64 ((j : Int) + 1) = (j : Int) + 1 := IntWalk.wrap64_in _ (by omega)
      clear hx hgt6 hgt5 hgt1 hbl2 hbr2 far bp bq hz hp2 hpl2 hb2 hg2 hR2 hj hgb hsz
      obtain ⟨zo, hzo⟩ : ∃ zo, x.off = zo := ⟨_, rfl⟩
      have HZO := Lib.hid hzo
      rw [hzo] at v2 ⊢
      clear hzo
      by_cases e1 : zo = z
      · have t1 : (zo != z) = false := by simp [e1]
        have t2 : (z != z) = false := by simp
        have HE := Lib.hid e1
        clear e1
        gi_wp2
        refine quiet_round (F := Fence.wide) rfl (by kernel_rfl) (by kernel_rfl) (by kernel_rfl) ?_
        repeat (gi_big_quiet_step (first | (with_reducible refine HI1.out _ _) | (with_reducible refine HI2.out _ _)))
        refine wpQuietIn_nil ?_
        rintro _ ⟨nq, rfl⟩
        gi_wp2
        have HT := Lib.hid (take_onI HP2.out HHL.out (by rw [HZO.out, HE.out, HZ.out]))
        exact ⟨keeps_drewN9 _ _ _ _ _, keepX_put (keepX_grown (grown_drewN (grown_refl _ _) nq)) (.inl rfl) _, HT.out.1, HT.out.2, by rw [List.length_append, List.length_singleton, HJ.out]; exact (box_drewN9 HB2'.out nq).put 0 _, grown_put (j := 0) (grown_drewN HG2'.out nq) (.inl rfl) _⟩
      · have t1 : (zo != z) = true := by simp [e1]
        have HE := Lib.hid e1
        clear e1
        gi_wp2
        refine quiet_round (F := Fence.wide) rfl (by kernel_rfl) (by kernel_rfl) (by kernel_rfl) ?_
        repeat (gi_big_quiet_step (first | (with_reducible refine HI1.out _ _) | (with_reducible refine HI2.out _ _)))
        refine wpQuietIn_nil ?_
        rintro _ ⟨nq, rfl⟩
        gi_wp2
        exact ⟨keeps_drewN9 _ _ _ _ _, rfl, pre, x, rfl, fun h => HE.out (by rw [← HZO.out, h, HZ.out])⟩
    case stop =>
      rintro D c pre W hD ⟨k, hk, he⟩ ⟨rfl, pre', x, rfl, hne⟩ hK
      rw [List.map_append] at he
      have h1 := take_lastI he.symm
      rw [List.length_map] at h1
      exact absurd h1 hne
    case done =>
      rintro D xs W hD hxs ⟨hp, hpl, hb, hg⟩ hK
      have hlen : xs.length = L.length := by have h1 := congrArg List.length hxs; rw [List.length_map] at h1; exact h1
      rw [hlen] at hb
      clear hp hpl hlen hxs
      have HBNW := Lib.hid hb
      have HG68 := Lib.hid (grown_join HG67.out HG78.out (.inr (by simp)))
      have HG5W : Hid (w5.grownBy W none) := Lib.hid (grown_join (grown_join HG56.out HG68.out (.inr (by simp))) hg (.inr fun z e => by injection e with e; omega))
      have HBLW := Lib.hid ((HBL.out.grown HG68.out (by simp)).grown hg (fun e => by injection e with e; omega))
      have HS8 := Lib.hid hg.size
      have HKD := Lib.hid hK
      have HDS := Lib.hid (show D < W.heap.size from (Array.getElem?_eq_some_iff.1 hK).1)
      have HD8 := Lib.hid hD
      clear hb hg hK hD
      go_upto_region 11 with fail
      obtain ⟨w9, hw9⟩ : ∃ w9, w9 = W.alloc (.cells #[.int .i64 0] 3) := ⟨_, rfl⟩
      rw [← hw9]
      have HBK : Hid (Box w9 W.heap.size 3 #[.int .i64 0]) := Lib.hid (by rw [hw9]; exact Box.fresh _ _ _)
      have HGW9 : Hid (W.grownBy w9 none) := Lib.hid (by rw [hw9]; exact World.grownBy_alloc _ _ _)
      clear hw9
      have HG59 := Lib.hid (grown_join HG5W.out HGW9.out (.inr (by simp)))
      have HG9 := Lib.hid (grown_join HG5.out HG59.out (.inr (by simp)))
      have HGV9 := Lib.hid (grown_join HG1.out HG9.out (.inr (by simp)))
      obtain ⟨x0, x1, x2⟩ := HC1.out _ HG9.out
      go_wp2_with fail
      refine (HOW.out _).mono ?_
      rintro e w10 ⟨rfl, hg⟩
      have HG910 := Lib.hid hg
      have HGV10 := Lib.hid (grown_join HGV9.out hg (.inr (by simp)))
      clear hg x0 x1 x2
      go_wp2_with fail
      refine (HLL.out _ HGV10.out).mono ?_
      rintro e w11 ⟨hg, gf2, lb2, rfl, hplain, hseq⟩
      rw [HL.out] at hseq
      dsimp only at hseq
      have HPLN2 := Lib.hid hplain
      have HSEQ2 := Lib.hid hseq
      have HG1011 := Lib.hid hg
      have HGV11 := Lib.hid (grown_join HGV10.out hg (.inr (by simp)))
      have HG911 := Lib.hid (grown_join HG910.out hg (.inr (by simp)))
      clear hg hplain hseq
      go_wp2_with fail
      have HTK := Lib.hid (show w8.heap.size ≤ W.heap.size ∧ W.heap.size < w9.heap.size ∧ w9.heap.size ≤ w10.heap.size ∧ w10.heap.size ≤ w11.heap.size from ⟨HS8.out, HBK.out.small, HG910.out.size, HG1011.out.size⟩)
      have HXX2 : Hid (∀ x, x = W.heap.size → x < w10.heap.size ∧ Clear A n A' n' x) := Lib.hid (by
        have h1 := HTN.out
        have h2 := HTK.out
        rintro x rfl
        exact ⟨by omega, clear_new (HF.out w (grown_refl _ _)) (by omega)⟩)
      have HSX2 := Lib.hid (HSEQ2.out 8 w11 (fun x => x = W.heap.size) (by omega) (grown_refl _ _) HXX2.out)
      have HBK9 := Lib.hid (HBK.out.grown HG911.out (by simp))
      have HL2 := Lib.hid (show ∀ zs : List LineZ, zs.map LineZ.off = L → zs.length = L.length from fun zs hz => by have h1 := congrArg List.length hz; rw [List.length_map] at h1; exact h1)
      refine (wpIn_wide (n := 9)).1 ?_
      refine range_round (by omega) (gf := gf2) (lb := lb2) rfl HPLN2.out HSX2.out (fun h1 h2 => keepX_t h1 h2) (fun W l o o' h1 h2 h3 h4 => keepX_b W l o o' h1 h2 h3 h4) (fun x W l o o' h1 h2 h3 => line_put x W l o o' h1 h2 h3) (fun _ => rfl) (fun x W W' h1 h2 => ViewF.grow h1 h2) (fun W W' h1 => keepX_grown h1)
        (fun pre W2 => pre.length < 2 ∧ pre.length ≤ L.length ∧ Box W2 W.heap.size 3 #[.int .i64 (pre.length : Nat)] ∧ w11.grownBy W2 (some W.heap.size))
        (fun c pre W2 => c = .exit 2 ∧ pre.length = 2 ∧ pre.length ≤ L.length ∧ Box W2 W.heap.size 3 #[.int .i64 2] ∧ w11.grownBy W2 (some W.heap.size))
        (fun pre Wa Wb row hs hg hr => ⟨hs.1, hs.2.1, hs.2.2.1.grown hg (fun e => by have h1 := (hr _ e.symm).1; have h2 := HTK.out; omega), grown_join hs.2.2.2 hg (.inr fun z e => (hr z e).1)⟩)
        (fun c pre Wa Wb row hs hg hr => ⟨hs.1, hs.2.1, hs.2.2.1, hs.2.2.2.1.grown hg (fun e => by have h1 := (hr _ e.symm).1; have h2 := HTK.out; omega), grown_join hs.2.2.2.2 hg (.inr fun z e => (hr z e).1)⟩) ⟨by simp, Nat.zero_le _, HBK9.out, grown_more (grown_refl _ _) _⟩ ?round2 ?done2 ?stop2
      case round2 =>
        rintro l2 pre x W2 ⟨hl, hpl, hb, hg⟩ hR hlt
        dsimp only [encZ]
        gi_wp2
        refine ⟨grown_refl _ _, ?_⟩
        rintro W3 k9 o9 o9' hk9 hc9 hW3 ⟨hl3, hpl3, hb3, hg3⟩ hR3
        clear hk9 hc9 hW3 hl hpl hb hg hR hR3
        obtain ⟨j, hj⟩ : ∃ j, pre.length = j := ⟨_, rfl⟩
        rw [hj] at hl3 hb3 hlt
        have HJ := Lib.hid hj
        have HLT := Lib.hid hlt
        have n0 := hb3.get 0
        have nf := hb3.free 0
        have HBN3 := Lib.hid (hb3.put 0 (.int .i64 ((j : Int) + 1)))
        have HGN3 := Lib.hid (grown_put (j := 0) hg3 (.inl rfl) (.int .i64 ((j : Int) + 1)))
        obtain ⟨m0, m1, m2⟩ := cells_put9 hb3 (.int .i64 ((j : Int) + 1))
        have v0 : IntKind.i64.wrap ((j : Int) + 1) = (j : Int) + 1 := IntWalk.i64_in _ (by omega)
        have v1 : wrap64 ((j : Int) + 1) = (j : Int) + 1 := IntWalk.wrap64_in _ (by omega)
        clear hb3 hg3 hlt hpl3
        by_cases e3 : j = 1
        · subst e3
          gi_wp2
          exact ⟨(KeepsOthers.setCell _ _ _).from _, rfl, by rw [List.length_append, List.length_singleton, HJ.out], by rw [List.length_append, List.length_singleton, HJ.out]; exact HLT.out, HBN3.out, HGN3.out⟩
        · have v2 : (((j : Int) + 1) == 2) = false := by simp; omega
          have v3 : ¬ ((j : Int) + 1 = 2) := by omega
          gi_wp2
          exact ⟨(KeepsOthers.setCell _ _ _).from _, keepX_put (X := fun x => x = W.heap.size) (keepX_refl _ _) rfl _, by rw [List.length_append, List.length_singleton, HJ.out]; omega, by rw [List.length_append, List.length_singleton, HJ.out]; exact HLT.out, by rw [List.length_append, List.length_singleton, HJ.out]; exact HBN3.out, HGN3.out⟩
      case done2 =>
        rintro D2 ys W2 hD2 hys ⟨hl, hpl, hb, hg⟩ hK2
        rw [HL2.out ys hys] at hl hb
        have HGW2 : Hid (W.grownBy W2 none) := Lib.hid (grown_join (grown_join HGW9.out HG911.out (.inr (by simp))) hg (.inr fun z e => by injection e with e; omega))
        have HG1W2 := Lib.hid (grown_join (grown_join HG5.out HG5W.out (.inr (by simp))) HGW2.out (.inr (by simp)))
        have HGWW2 := Lib.hid (grown_join HG1.out HG1W2.out (.inr (by simp)))
        have HX1 := Lib.hid (HB1.out.grown HG1W2.out (by simp))
        have HX2 := Lib.hid (HBNW.out.grown HGW2.out (by simp))
        have HX3 := Lib.hid (HBLW.out.grown HGW2.out (by simp))
        have HX4 := Lib.hid hb
        have HXR := Lib.hid (HBR.out.grown HG1W2.out (by simp))
        have HKD2 := Lib.hid hK2
        have HKD1 : Hid (W2.heap[D]? = some (.deferred (some []))) := Lib.hid ((HGW2.out.block D HDS.out (by simp)).trans HKD.out)
        have HDD := Lib.hid (show D ≠ D2 ∧ w.heap.size ≤ D ∧ w.heap.size ≤ D2 ∧ w.heap.size ≤ w.heap.size + 1 by have h1 := HTN.out; have h2 := HTK.out; have h3 := HDS.out; have h4 := HD8.out; omega)
        have HSC := Lib.hid (fun w' (hg' : W2.grownBy w' none) => HS.out.collect A n c A' n' c' ⟨s, t, o⟩ w' (HF.out w' (grown_join HGWW2.out hg' (.inr (by simp)))) ho)
        have HRC := Lib.hid (fun w' (hg' : W2.grownBy w' none) => ref9Collect_any A A' n c n' c' s t o w' (HF.out w' (grown_join HGWW2.out hg' (.inr (by simp)))).1 (HF.out w' (grown_join HGWW2.out hg' (.inr (by simp)))).2.1 hn.1 hn.2)
        have HCS := Lib.hid (col_small ⟨s, t, o⟩)
        have hL8 := HL8.out
        have j0 : (((L.length : Nat) : Int) == ((L.length : Nat) : Int)) = true := by simp
        have j1 : (L.length : Int) < 2 := by omega
        have j2 : ¬ ((2 : Int) ≤ (L.length : Int)) := by omega
        have j3 : ¬ ((2 : Int) < (L.length : Int)) := by omega
        have j4 : min (2 : Int) (L.length : Int) = (L.length : Int) := by omega
        have j5 : decide ((L.length : Int) < 2) = true := decide_eq_true j1
        have j6 : decide ((2 : Int) < (L.length : Int)) = false := decide_eq_false j3
        have j7 : decide ((2 : Int) ≤ (L.length : Int)) = false := decide_eq_false j2
        clear hb hg hK2 hys hl hpl hD2
        have HC14 := Lib.hid (fun w' (hg' : W2.grownBy w' (some (w.heap.size + 1))) => by
          have h1 := HTN.out
          have h2 := HTK.out
          exact cells_last9 (HX1.out.grown hg' (fun e => by injection e with e; omega)) (HX2.out.grown hg' (fun e => by injection e with e; omega)) (HX3.out.grown hg' (fun e => by injection e with e; omega)) (HX4.out.grown hg' (fun e => by injection e with e; omega)))
        have HGC := Lib.hid (grown_refl W2 none)
        have KEEP0 := Lib.hid (cells_last9 HX1.out HX2.out HX3.out HX4.out)
        have KEEPD := Lib.hid (cells_last9 (box_dr9 HX1.out) (box_dr9 HX2.out) (box_dr9 HX3.out) (box_dr9 HX4.out))
        obtain ⟨x0, x1, x2, x3, x4, x5⟩ := KEEP0.out
        try clear HLI
        try clear HLS
        try clear HS
        try clear HW1
        try clear HC1
        try clear HCR
        try clear HLB
        try clear HRL
        try clear HLL
        try clear HG2
        try clear HG45
        try clear HES
        try clear HOUT
        try clear HG78
        try clear HSEQ
        try clear HPLN
        try clear HXX
        try clear HSX
        try clear HBN8
        try clear HSEQ2
        try clear HPLN2
        try clear HXX2
        try clear HSX2
        try clear HBK9
        try clear HL2
        try clear h
        try clear h'
        go_upto_region 14 with fail
        go_region_held3 (fun w' => w'.cell? ⟨w.heap.size, 0, none⟩ = some (.slice A n c) ∧ w'.cell? ⟨w.heap.size, 1, none⟩ = some (.slice A' n' c') ∧ w'.cell? ⟨w.heap.size, 2, none⟩ = some (.int .i64 o) ∧ w'.cell? ⟨w5.heap.size + 1, 0, none⟩ = some (.int .i64 (L.length : Nat)) ∧ w'.cell? ⟨w5.heap.size, 0, none⟩ = some (.slice B L.length d) ∧ w'.cell? ⟨W.heap.size, 0, none⟩ = some (.int .i64 ((L.length : Nat)))) (first | (with_reducible exact KEEP.out) | (with_reducible exact KEEPD.out) | (with_reducible exact KEEP0.out) | exact KEEP9.out | exact KEEP.out | exact KEEPD.out) (first
          | (go_at_call 12; (with_reducible refine (HSC.out _ HGC.out).mono ?_); rintro e w199 ⟨LA, ln, lc, rfl, hla, hg⟩; have HGC := Lib.hid (grown_join HGC.out hg (.inr (by simp))); have HLA := Lib.hid hla; clear hla hg; have KEEP := Lib.hid (cells_last9 (HX1.out.grown HGC.out (by simp)) (HX2.out.grown HGC.out (by simp)) (HX3.out.grown HGC.out (by simp)) (HX4.out.grown HGC.out (by simp))))
          | (go_at_call 13; (with_reducible refine (HRC.out _ HGC.out).mono ?_); rintro e w199 ⟨LB, lb9, rfl, hlb, hg⟩; have HGC := Lib.hid (grown_join HGC.out hg (.inr (by simp))); have HLA := Lib.hid (HLA.out.grow hg); have HLB := Lib.hid hlb.numsF; clear hlb hg; have KEEP := Lib.hid (cells_last9 (HX1.out.grown HGC.out (by simp)) (HX2.out.grown HGC.out (by simp)) (HX3.out.grown HGC.out (by simp)) (HX4.out.grown HGC.out (by simp))))
          | (go_at_call 11; refine ((ints9_any _ _ _ _ _ _ _ _ _ _ _ HLA.out.1 HLB.out.1 (by have h1 := HLA.out.len; have h2 := HCS.out; omega) HCS.out).mono fun _ _ h => ToldV.tells h).mono ?_; rintro e w199 ⟨rfl, hg⟩; rw [decide_eq_true rfl]; have HGC := Lib.hid (grown_join HGC.out hg (.inr (by simp))); clear hg; have KEEP := Lib.hid (cells_last9 (HX1.out.grown HGC.out (by simp)) (HX2.out.grown HGC.out (by simp)) (HX3.out.grown HGC.out (by simp)) (HX4.out.grown HGC.out (by simp))))
          | (go_at_call 7; refine (HK.out _).mono ?_; rintro e w199 ⟨rfl, hg⟩; have HGC := Lib.hid (grown_join HGC.out hg (.inr (by simp))); clear hg; have KEEP := Lib.hid (cells_last9 (HX1.out.grown HGC.out (by simp)) (HX2.out.grown HGC.out (by simp)) (HX3.out.grown HGC.out (by simp)) (HX4.out.grown HGC.out (by simp))); obtain ⟨r0, r1⟩ := cells_one9 (HXR.out.grown HGC.out (by simp)); have KEEP9 := Lib.hid (HC14.out _ (grown_put (j := 0) (grown_more HGC.out _) (.inl rfl) (.bool true))))
          | (go_at_call 10; (with_reducible refine (HOW.out _).mono ?_); rintro e w199 ⟨rfl, hg⟩; have HGC := Lib.hid (grown_join (grown_drew HGC.out) hg (.inr (by simp))); clear hg; have KEEP := Lib.hid (cells_last9 (HX1.out.grown HGC.out (by simp)) (HX2.out.grown HGC.out (by simp)) (HX3.out.grown HGC.out (by simp)) (HX4.out.grown HGC.out (by simp)))))
        all_goals
          go_wp2_with fail
          exact leave_two9 HKD1.out HKD2.out HDD.out.1 HGC.out (HXR.out.grown HGC.out (by simp)) (grown_join HGWW2.out HGC.out (.inr (by simp))) HDD.out.2.2.2 ⟨HDD.out.2.1, HDD.out.2.2.1⟩ (fun W9 e0 => by simp [results, Try.results3, go_sem, e0])
      case stop2 =>
        rintro D2 c2 ys W2 hD2 hys ⟨rfl, hl, hpl, hb, hg⟩ hK2
        refine wpIn_wide.2 ?_
        have HGW2 : Hid (W.grownBy W2 none) := Lib.hid (grown_join (grown_join HGW9.out HG911.out (.inr (by simp))) hg (.inr fun z e => by injection e with e; omega))
        have HG1W2 := Lib.hid (grown_join (grown_join HG5.out HG5W.out (.inr (by simp))) HGW2.out (.inr (by simp)))
        have HGWW2 := Lib.hid (grown_join HG1.out HG1W2.out (.inr (by simp)))
        have HX1 := Lib.hid (HB1.out.grown HG1W2.out (by simp))
        have HX2 := Lib.hid (HBNW.out.grown HGW2.out (by simp))
        have HX3 := Lib.hid (HBLW.out.grown HGW2.out (by simp))
        have HX4 := Lib.hid hb
        have HXR := Lib.hid (HBR.out.grown HG1W2.out (by simp))
        have HKD2 := Lib.hid hK2
        have HKD1 : Hid (W2.heap[D]? = some (.deferred (some []))) := Lib.hid ((HGW2.out.block D HDS.out (by simp)).trans HKD.out)
        have HDD := Lib.hid (show D ≠ D2 ∧ w.heap.size ≤ D ∧ w.heap.size ≤ D2 ∧ w.heap.size ≤ w.heap.size + 1 by have h1 := HTN.out; have h2 := HTK.out; have h3 := HDS.out; have h4 := HD8.out; omega)
        have HSC := Lib.hid (fun w' (hg' : W2.grownBy w' none) => HS.out.collect A n c A' n' c' ⟨s, t, o⟩ w' (HF.out w' (grown_join HGWW2.out hg' (.inr (by simp)))) ho)
        have HRC := Lib.hid (fun w' (hg' : W2.grownBy w' none) => ref9Collect_any A A' n c n' c' s t o w' (HF.out w' (grown_join HGWW2.out hg' (.inr (by simp)))).1 (HF.out w' (grown_join HGWW2.out hg' (.inr (by simp)))).2.1 hn.1 hn.2)
        have HCS := Lib.hid (col_small ⟨s, t, o⟩)
        have hL8 := HL8.out
        have j0 : (((L.length : Nat) : Int) == ((L.length : Nat) : Int)) = true := by simp
        have j1 : ¬ ((L.length : Int) < 2) := by omega
        have j2 : (2 : Int) ≤ (L.length : Int) := by omega
        have j4 : min (2 : Int) (L.length : Int) = 2 := by omega
        have j5 : decide ((L.length : Int) < 2) = false := decide_eq_false j1
        have j7 : decide ((2 : Int) ≤ (L.length : Int)) = true := decide_eq_true j2
        clear hb hg hK2 hys hl hpl hD2
        have HC14 := Lib.hid (fun w' (hg' : W2.grownBy w' (some (w.heap.size + 1))) => by
          have h1 := HTN.out
          have h2 := HTK.out
          exact cells_last9 (HX1.out.grown hg' (fun e => by injection e with e; omega)) (HX2.out.grown hg' (fun e => by injection e with e; omega)) (HX3.out.grown hg' (fun e => by injection e with e; omega)) (HX4.out.grown hg' (fun e => by injection e with e; omega)))
        have HGC := Lib.hid (grown_refl W2 none)
        have KEEP0 := Lib.hid (cells_last9 HX1.out HX2.out HX3.out HX4.out)
        have KEEPD := Lib.hid (cells_last9 (box_dr9 HX1.out) (box_dr9 HX2.out) (box_dr9 HX3.out) (box_dr9 HX4.out))
        obtain ⟨x0, x1, x2, x3, x4, x5⟩ := KEEP0.out
        try clear HLI
        try clear HLS
        try clear HS
        try clear HW1
        try clear HC1
        try clear HCR
        try clear HLB
        try clear HRL
        try clear HLL
        try clear HG2
        try clear HG45
        try clear HES
        try clear HOUT
        try clear HG78
        try clear HSEQ
        try clear HPLN
        try clear HXX
        try clear HSX
        try clear HBN8
        try clear HSEQ2
        try clear HPLN2
        try clear HXX2
        try clear HSX2
        try clear HBK9
        try clear HL2
        try clear h
        try clear h'
        go_upto_region 14 with fail
        go_region_held3 (fun w' => w'.cell? ⟨w.heap.size, 0, none⟩ = some (.slice A n c) ∧ w'.cell? ⟨w.heap.size, 1, none⟩ = some (.slice A' n' c') ∧ w'.cell? ⟨w.heap.size, 2, none⟩ = some (.int .i64 o) ∧ w'.cell? ⟨w5.heap.size + 1, 0, none⟩ = some (.int .i64 (L.length : Nat)) ∧ w'.cell? ⟨w5.heap.size, 0, none⟩ = some (.slice B L.length d) ∧ w'.cell? ⟨W.heap.size, 0, none⟩ = some (.int .i64 (2))) (first | (with_reducible exact KEEP.out) | (with_reducible exact KEEPD.out) | (with_reducible exact KEEP0.out) | exact KEEP9.out | exact KEEP.out | exact KEEPD.out) (first
          | (go_at_call 12; (with_reducible refine (HSC.out _ HGC.out).mono ?_); rintro e w199 ⟨LA, ln, lc, rfl, hla, hg⟩; have HGC := Lib.hid (grown_join HGC.out hg (.inr (by simp))); have HLA := Lib.hid hla; clear hla hg; have KEEP := Lib.hid (cells_last9 (HX1.out.grown HGC.out (by simp)) (HX2.out.grown HGC.out (by simp)) (HX3.out.grown HGC.out (by simp)) (HX4.out.grown HGC.out (by simp))))
          | (go_at_call 13; (with_reducible refine (HRC.out _ HGC.out).mono ?_); rintro e w199 ⟨LB, lb9, rfl, hlb, hg⟩; have HGC := Lib.hid (grown_join HGC.out hg (.inr (by simp))); have HLA := Lib.hid (HLA.out.grow hg); have HLB := Lib.hid hlb.numsF; clear hlb hg; have KEEP := Lib.hid (cells_last9 (HX1.out.grown HGC.out (by simp)) (HX2.out.grown HGC.out (by simp)) (HX3.out.grown HGC.out (by simp)) (HX4.out.grown HGC.out (by simp))))
          | (go_at_call 11; refine ((ints9_any _ _ _ _ _ _ _ _ _ _ _ HLA.out.1 HLB.out.1 (by have h1 := HLA.out.len; have h2 := HCS.out; omega) HCS.out).mono fun _ _ h => ToldV.tells h).mono ?_; rintro e w199 ⟨rfl, hg⟩; rw [decide_eq_true rfl]; have HGC := Lib.hid (grown_join HGC.out hg (.inr (by simp))); clear hg; have KEEP := Lib.hid (cells_last9 (HX1.out.grown HGC.out (by simp)) (HX2.out.grown HGC.out (by simp)) (HX3.out.grown HGC.out (by simp)) (HX4.out.grown HGC.out (by simp))))
          | (go_at_call 7; refine (HK.out _).mono ?_; rintro e w199 ⟨rfl, hg⟩; have HGC := Lib.hid (grown_join HGC.out hg (.inr (by simp))); clear hg; have KEEP := Lib.hid (cells_last9 (HX1.out.grown HGC.out (by simp)) (HX2.out.grown HGC.out (by simp)) (HX3.out.grown HGC.out (by simp)) (HX4.out.grown HGC.out (by simp))); obtain ⟨r0, r1⟩ := cells_one9 (HXR.out.grown HGC.out (by simp)); have KEEP9 := Lib.hid (HC14.out _ (grown_put (j := 0) (grown_more HGC.out _) (.inl rfl) (.bool true))))
          | (go_at_call 10; (with_reducible refine (HOW.out _).mono ?_); rintro e w199 ⟨rfl, hg⟩; have HGC := Lib.hid (grown_join (grown_drew HGC.out) hg (.inr (by simp))); clear hg; have KEEP := Lib.hid (cells_last9 (HX1.out.grown HGC.out (by simp)) (HX2.out.grown HGC.out (by simp)) (HX3.out.grown HGC.out (by simp)) (HX4.out.grown HGC.out (by simp)))))
        all_goals
          go_wp2_with fail
          exact leave_two9 HKD1.out HKD2.out HDD.out.1 HGC.out (HXR.out.grown HGC.out (by simp)) (grown_join HGWW2.out HGC.out (.inr (by simp))) HDD.out.2.2.2 ⟨HDD.out.2.1, HDD.out.2.2.1⟩ (fun W9 e0 => by simp [results, Try.results3, go_sem, e0])
end Go.Proofs.Ytdjenakmdjiknaa
end

/-! Layer 9: the walk of OdoCollects as the row wants it. -/
section
namespace Go.Proofs.Ytdjenakmdjiknaa
open Go.ChangeShapes Go.WideShapes Go.ChangeAt Go.RowKit Go.Deep
set_option linter.unusedVariables false
set_option maxRecDepth 100000

section
variable {T : World → Nat → Addr → Vw → Nat → Bool → Prop} (V : ViewSays9) (S : OdoSays T) (LS : LinesSay)
include V S LS
theorem odoCollects_walk (A A' : Option Addr) (n c n' c' : Nat) (s t : List Int) (o x : Int) (w : World) (h : NumsF w A n c s) (h' : NumsF w A' n' c' t) (ho : I64 o) (hx : I64 x) :
    Calls Try.prog 3 #[.agg #[.slice A n c, .slice A' n' c', .int .i64 o], .int .i64 x] w fun e w' => e = .returned (.bool true) ∧ Below w.heap.size w w' := by
  refine (odoCollects_any V S LS A A' n c n' c' s t o x w h h' ho hx).mono ?_
  rintro e w' ⟨rfl, hg⟩
  exact ⟨rfl, below_of_grown hg⟩
end
end Go.Proofs.Ytdjenakmdjiknaa
end
