/-
  Texts of this claim, one behind the other.
-/
import Derived.Sort.QuietIn
import Derived.Sort.BigQuietIn
import Derived.Deep.MidRow
import Derived.Shelf.Abstract
import Derived.Shelf.RegionOpen
import Derived.OwnWalkIn
import Derived.TacticsInMore
import Derived.LoopNIn
import Derived.LoopIn
import Derived.Deep.AppendLies
import Derived.Test.YtdjenakmdjiknaaPack1
import Derived.Test.YtdjenakmdjiknaaPack2
import Derived.Test.YtdjenakmdjiknaaPack3
import Derived.Test.YtdjenakmdjiknaaPack4
import Derived.Test.YtdjenakmdjiknaaPack5

/-! A region that draws its order, in the round of a range over a function: one walk of its text's order serves, as outside a round. -/
section
namespace Go.Proofs.Ytdjenakmdjiknaa
open Go.ChangeShapes Go.WideShapes Go.ChangeAt Go.RowKit
set_option linter.unusedVariables false

section
variable {F : Fence} {n r : Nat} {P : Program} {ops : Array Oper} {md : Region.Mode} {Q : Exit → Act → World → Prop}
theorem opIn_round {o : Oper} {a : Act} {w : World} {K : Act → World → Prop} (hd : ∀ c, o.op ≠ .defer c) (h : o.wpIn F n P a w K Q) : o.wpIn (F.inRound r) n P a w K Q := by
  unfold Oper.wpIn at *
  rw [Oper.semAt_eq _ _ _ hd] at *
  obtain ⟨h1, h2⟩ := h
  refine ⟨h1, ?_⟩
  generalize (execOp a.eval o).run P w = res at *
  cases res with
  | halt x w' => exact h2
  | ok x w' => cases x <;> exact h2
theorem wpOpIn_round {i : Nat} {a : Act} {w : World} {K : Act → World → Prop} (hd : ∀ o, ops[i]? = some o → ∀ c, o.op ≠ .defer c) (h : wpOpIn F n P ops Q i K a w) : wpOpIn (F.inRound r) n P ops Q i K a w := by
  unfold wpOpIn at *
  cases ho : ops[i]? with
  | none => rw [ho] at h; exact h
  | some o =>
    rw [ho] at h
    dsimp only at h ⊢
    by_cases hw : Region.wanted o (yielded ops a.tmps) = true
    · rw [if_pos hw] at h ⊢
      exact opIn_round (hd o ho) h
    · rw [if_neg hw] at h ⊢
      exact h
theorem wpAnyIn_round (hd : ∀ (i : Nat) (o : Oper), ops[i]? = some o → ∀ c, o.op ≠ .defer c) : ∀ (fuel : Nat) (listed : Array Bool) (a : Act) (w : World), wpAnyIn F n P md ops Q fuel listed a w → wpAnyIn (F.inRound r) n P md ops Q fuel listed a w
  | 0, _, _, _, h => h
  | fuel + 1, _, _, _, h => ⟨h.1, fun i hi => wpOpIn_round (hd i) (wpOpIn_mono (fun a w hh => wpAnyIn_round hd fuel _ a w hh) (h.2 i hi))⟩
def noDefer (l : List Oper) : Bool := l.all fun o => match o.op with | .defer _ => false | _ => true
theorem noDefer_spec {l : List Oper} (h : noDefer l = true) : ∀ (i : Nat) (o : Oper), l.toArray[i]? = some o → ∀ c, o.op ≠ .defer c := by
  intro i o ho c e
  have hm : o ∈ l := by
    rw [List.getElem?_toArray] at ho
    exact List.mem_of_getElem? ho
  have := List.all_eq_true.1 h o hm
  rw [e] at this
  cases this
theorem quiet_round {id : Nat} {a : Act} {w : World} {l : List Oper} (hro : F.round = none) (hm : P.follows .mixedOrders = true) (hB : Region.lexB .any l.toArray = true) (hd : noDefer l = true)
    (h : wpQuietIn F n P l.toArray (fun w' => ∃ k, w' = w.drewN k) (fun a' => ∀ w', (∃ k, w' = w.drewN k) → Q .normal a' w') l a) : (Code.region id l.toArray true).wpIn (F.inRound r) n P Q a w := by
  simp only [Region.lexB, Bool.and_eq_true] at hB
  refine wpIn_region_any hm (wpAnyIn_round (noDefer_spec hd) _ _ _ _ (wpAnyIn_of_quiet (C := fun w' => ∃ k, w' = w.drewN k) (Q := fun a' => ∀ w', (∃ k, w' = w.drewN k) → Q .normal a' w') hro (fun _ w' hw' h => h w' hw') _ _ _ _ ⟨1, rfl⟩ ?_))
  have h2 := wpAnyQIn_lex (F := F) (n := n) (C := fun w' => ∃ k, w' = w.drewN k) (md := .any) hB.1 l 0 (Array.replicate l.toArray.size false) a (by simp) (by simpa using hB.2) h
  simpa using h2
end
end Go.Proofs.Ytdjenakmdjiknaa
end

/-! A region that draws its order, whose operations but the last one only read: one walk of the text's order, then the last one by itself; in a round of a range over a function, too. Nothing of the program. -/
section
namespace Go.Proofs.Ytdjenakmdjiknaa
open Go.ChangeShapes Go.WideShapes Go.ChangeAt Go.RowKit
set_option linter.unusedVariables false

section
variable {F : Fence} {n r : Nat} {P : Program} {ops : Array Oper} {md : Region.Mode} {C : World → Prop}
/-- what is waited for, and what that waits for. -/
def ancB (md : Region.Mode) (ops : Array Oper) : Nat → Nat → List Nat
  | 0, k => [k]
  | f + 1, k => k :: (match ops[k]? with
    | none => []
    | some o => (o.after.toList.filter (Region.binds md)).flatMap fun e => ancB md ops f e.on)
def lastFrom (md : Region.Mode) (ops : Array Oper) : Nat → Nat → Array Bool → Bool
  | 0, k, listed => (Region.ready md ops listed == [k]) && (Region.ready md ops (listed.setIfInBounds k true)).isEmpty
  | fuel + 1, k, listed => (Region.ready md ops listed).contains k && Region.free md ops listed k && lastFrom md ops fuel (k + 1) (listed.setIfInBounds k true)
def lastB (md : Region.Mode) (ops : Array Oper) : Bool :=
  Region.noSelect ops && lastFrom md ops (ops.size - 1) 0 (Array.replicate ops.size false) && (List.range (ops.size - 1)).all fun m => (ancB md ops ops.size (ops.size - 1)).contains m
/-- what is listed had nothing to wait for. -/
def Cl (md : Region.Mode) (ops : Array Oper) (listed : Array Bool) : Prop := ∀ k o, ops[k]? = some o → listed.getD k false = true → ∀ e ∈ o.after, Region.binds md e = true → listed.getD e.on false = true
theorem listed_one {listed : Array Bool} {i : Nat} (h : listed.getD i true = false) : listed.getD i false ≠ true := by
  intro h2
  rcases Nat.lt_or_ge i listed.size with h' | h'
  · simp [h'] at h h2; rw [h] at h2; cases h2
  · simp [Array.getElem?_eq_none h'] at h
theorem Cl.start (k : Nat) : Cl md ops (Array.replicate k false) := by
  intro j o _ hj
  exfalso
  rcases Nat.lt_or_ge j k with h | h
  · simp [h] at hj
  · simp [h] at hj
theorem Cl.on {listed : Array Bool} {i : Nat} (h : Cl md ops listed) (hi : i ∈ Region.ready md ops listed) : Cl md ops (listed.setIfInBounds i true) := by
  intro k o ho hk e he hb
  by_cases hki : i = k
  · subst hki
    obtain ⟨_, o', ho', hall⟩ := mem_ready.1 hi
    rw [ho] at ho'
    injection ho' with ho'
    subst ho'
    exact getD_set_true (hall e he hb)
  · rw [getD_set_ne false hki] at hk
    exact getD_set_true (h k o ho hk e he hb)
theorem anc_listed {listed : Array Bool} (h : Cl md ops listed) : ∀ (f k : Nat), listed.getD k false = true → ∀ m ∈ ancB md ops f k, listed.getD m false = true
  | 0, k, hk, m, hm => by
    obtain rfl := List.mem_singleton.1 hm
    exact hk
  | f + 1, k, hk, m, hm => by
    rw [ancB] at hm
    rcases List.mem_cons.1 hm with rfl | hm
    · exact hk
    · cases ho : ops[k]? with
      | none => rw [ho] at hm; cases hm
      | some o =>
        rw [ho] at hm
        obtain ⟨e, he, hme⟩ := List.mem_flatMap.1 hm
        obtain ⟨h1, h2⟩ := List.mem_filter.1 he
        exact anc_listed h f e.on (h k o ho hk e (Array.mem_toList_iff.1 h1) h2) m hme
theorem anc_ready {listed : Array Bool} (h : Cl md ops listed) {f k : Nat} (hk : k ∈ Region.ready md ops listed) : ∀ m ∈ ancB md ops f k, m ≠ k → listed.getD m false = true := by
  intro m hm hne
  obtain ⟨_, o, ho, hall⟩ := mem_ready.1 hk
  cases f with
  | zero => exact absurd (List.mem_singleton.1 hm) hne
  | succ f =>
    rw [ancB, ho] at hm
    rcases List.mem_cons.1 hm with rfl | hm
    · exact absurd rfl hne
    · obtain ⟨e, he, hme⟩ := List.mem_flatMap.1 hm
      obtain ⟨h1, h2⟩ := List.mem_filter.1 he
      exact anc_listed h f e.on (hall e (Array.mem_toList_iff.1 h1) h2) m hme

/-- whatever order is picked from here on, till the last one alone is left. -/
def wpAnyL (F : Fence) (n : Nat) (P : Program) (md : Region.Mode) (ops : Array Oper) (C : World → Prop) (N : Nat) (Qb : Act → Prop) : Nat → Array Bool → Act → Prop
  | 0, listed, a => Region.ready md ops listed = [N] ∧ Region.ready md ops (listed.setIfInBounds N true) = [] ∧ Qb a
  | fuel + 1, listed, a => Region.ready md ops listed ≠ [] ∧ ∀ i ∈ Region.ready md ops listed, i ≠ N ∧ qOpIn F n P ops C i (wpAnyL F n P md ops C N Qb fuel (listed.setIfInBounds i true)) a

theorem wpAnyL_first {N : Nat} {Qb : Act → Prop} {i : Nat} {oi : Oper} {v : Value} (hi : ops[i]? = some oi) (hsel : ∀ (j : Nat) (o : Oper) cs b, ops[j]? = some o → o.op ≠ .select cs b)
    (hN : ∀ listed, Cl md ops listed → N ∈ Region.ready md ops listed → ∀ m, m < N → listed.getD m false = true) (hiN : i < N) :
    ∀ (fuel : Nat) (listed : Array Bool) (a : Act), Cl md ops listed →
      (∀ j oj, ops[j]? = some oj → j ≠ i → listed.getD j true = false → (∀ e ∈ oj.after, Region.binds md e = true → e.on ≠ i) → oi.apart ops oj = true) →
      i ∈ Region.ready md ops listed → YieldsQuiet F n P ops C oi v a →
      wpAnyL F n P md ops C N Qb fuel (listed.setIfInBounds i true) (a.put oi.dst v) → wpAnyL F n P md ops C N Qb (fuel + 1) listed a := by
  intro fuel
  induction fuel with
  | zero =>
    intro listed a hcl _ hr hy H
    have hn : ∀ j ∈ Region.ready md ops listed, j ≠ N := fun j hj e => listed_one (mem_ready.1 hr).1 (hN listed hcl (by rw [← e]; exact hj) i hiN)
    refine ⟨fun h => (by rw [h] at hr; cases hr), fun j hj => ⟨hn j hj, ?_⟩⟩
    by_cases hji : j = i
    · subst hji; exact hy.qOpIn hi H
    · have := ready_mono hj hji
      rw [H.1] at this
      exact absurd (List.mem_singleton.1 this) (hn j hj)
  | succ fuel ih =>
    intro listed a hcl hfree hr hy H
    have hn : ∀ j ∈ Region.ready md ops listed, j ≠ N := fun j hj e => listed_one (mem_ready.1 hr).1 (hN listed hcl (by rw [← e]; exact hj) i hiN)
    refine ⟨fun h => (by rw [h] at hr; cases hr), fun j hj => ⟨hn j hj, ?_⟩⟩
    by_cases hji : j = i
    · subst hji; exact hy.qOpIn hi H
    · have h1 := (H.2 j (ready_mono hj hji)).2
      obtain ⟨hjun, oj, hoj, hall⟩ := mem_ready.1 hj
      have hnot : ∀ e ∈ oj.after, Region.binds md e = true → e.on ≠ i := fun e he hb heq => by
        have h1 := hall e he hb
        rw [heq] at h1
        exact listed_one (mem_ready.1 hr).1 h1
      have h2 := qOpIn_put hoj (hfree j oj hoj hji hjun hnot) (fun cs b => hsel i oi cs b hi) (fun cs b => hsel j oj cs b hoj) hy h1
      have hfree' : ∀ k ok, ops[k]? = some ok → k ≠ i → (listed.setIfInBounds j true).getD k true = false →
          (∀ e ∈ ok.after, Region.binds md e = true → e.on ≠ i) → oi.apart ops ok = true := fun k ok hk hki hun hno => by
        refine hfree k ok hk hki ?_ hno
        by_cases hjk : j = k
        · subst hjk; exact hjun
        · rw [getD_set_ne true hjk] at hun; exact hun
      refine qOpIn_mono (fun a' h3 => ih (listed.setIfInBounds j true) a' (hcl.on hj) hfree' (ready_mono hr (Ne.symm hji)) h3.1 ?_) h2
      rw [Array.setIfInBounds_comm _ _ hji]
      exact h3.2
theorem wpAnyL_lex {N : Nat} {Qb : Act → Prop} (hs : Region.noSelect ops = true) (hN : ∀ listed, Cl md ops listed → N ∈ Region.ready md ops listed → ∀ m, m < N → listed.getD m false = true) :
    ∀ (l : List Oper) (k : Nat) (listed : Array Bool) (a : Act), k + l.length = N → (∀ j, j < l.length → l[j]? = ops[k + j]?) → Cl md ops listed →
    lastFrom md ops l.length k listed = true → wpQuietIn F n P ops C Qb l a → wpAnyL F n P md ops C N Qb l.length listed a
  | [], k, listed, a, hk, _, _, hB, h => by
    simp only [List.length_nil, Nat.add_zero] at hk
    subst hk
    simp only [List.length_nil, lastFrom, Bool.and_eq_true, beq_iff_eq, List.isEmpty_iff] at hB
    exact ⟨hB.1, hB.2, h⟩
  | o :: l, k, listed, a, hk, hl, hcl, hB, h => by
    have h0 : ops[k]? = some o := by have := hl 0 (by simp); simpa using this.symm
    simp only [List.length_cons, lastFrom, Bool.and_eq_true] at hB
    obtain ⟨⟨hr, hf⟩, hB'⟩ := hB
    have hr : k ∈ Region.ready md ops listed := by simpa using hr
    have hst : qOpIn F n P ops C k (wpQuietIn F n P ops C Qb l) a := by unfold qOpIn; simp only [h0]; exact h
    obtain ⟨v, hy, hK⟩ := yieldsQuiet_of_qOpIn h0 hst
    simp only [List.length_cons] at hk
    exact wpAnyL_first h0 (Region.noSelect_spec hs) hN (by omega) l.length listed a hcl (Region.free_spec h0 hf) hr hy
      (wpAnyL_lex hs hN l (k + 1) _ _ (by omega) (fun j hj => by have := hl (j + 1) (by simp; omega); simpa [Nat.add_assoc, Nat.add_comm 1 j] using this) (hcl.on hr) hB' hK)
theorem wpAnyIn_of_L {Q : Exit → Act → World → Prop} {N : Nat} {Qb : Act → Prop} {o : Oper} (hro : F.round = none) (ho : ops[N]? = some o) (hQ : ∀ a w, C w → Qb a → wpListIn F n P ops Q [o] a w) :
    ∀ (fuel : Nat) (listed : Array Bool) (a : Act) (w : World), C w → wpAnyL F n P md ops C N Qb fuel listed a → wpAnyIn F n P md ops Q (fuel + 1) listed a w
  | 0, listed, a, w, hw, H => by
    refine ⟨fun h => (by rw [H.1] at h; cases h), fun i hi => ?_⟩
    rw [H.1] at hi
    obtain rfl := List.mem_singleton.1 hi
    have hq := hQ a w hw H.2.2
    simp only [wpListIn] at hq
    unfold wpOpIn
    simp only [ho]
    by_cases hwt : Region.wanted o (yielded ops a.tmps) = true
    · simp only [hwt, if_true] at hq ⊢
      exact Oper.wpIn_mono (fun a w h => ⟨H.2.1, h⟩) hq
    · simp only [hwt] at hq ⊢
      exact ⟨hq.1, H.2.1, hq.2⟩
  | fuel + 1, listed, a, w, hw, H =>
    ⟨fun h => absurd h H.1, fun i hi => wpOpIn_of_qOpIn hro hw (fun a' w' hw' => wpAnyIn_of_L hro ho hQ fuel _ a' w' hw') (H.2 i hi).2⟩
def aheadL : List Oper → List Oper
  | [] => []
  | [_] => []
  | a :: b :: l => a :: aheadL (b :: l)
def lastL : List Oper → List Oper
  | [] => []
  | [o] => [o]
  | _ :: b :: l => lastL (b :: l)
theorem ahead_last : ∀ (L : List Oper), L ≠ [] → ∃ o, lastL L = [o] ∧ L = aheadL L ++ [o]
  | [], h => absurd rfl h
  | [o], _ => ⟨o, rfl, rfl⟩
  | a :: b :: l, _ => by
    obtain ⟨o, h1, h2⟩ := ahead_last (b :: l) (by simp)
    exact ⟨o, h1, by rw [aheadL, List.cons_append, ← h2]⟩
theorem any_last {Q : Exit → Act → World → Prop} {a : Act} {w : World} {L : List Oper} (hro : F.round = none) (hne : L ≠ []) (hB : lastB .any L.toArray = true)
    (h : wpQuietIn F n P L.toArray (fun w' => ∃ k, w' = w.drewN k) (fun a' => ∀ w', (∃ k, w' = w.drewN k) → wpListIn F n P L.toArray Q (lastL L) a' w') (aheadL L) a) :
    wpAnyIn F n P .any L.toArray Q L.toArray.size (Array.replicate L.toArray.size false) a { w with drawn := w.drawn + 1 } := by
  obtain ⟨o, h1, h2⟩ := ahead_last L hne
  rw [h1] at h
  have hlen : L.length = (aheadL L).length + 1 := by
    have := congrArg List.length h2
    simpa using this
  simp only [lastB, Bool.and_eq_true, List.size_toArray] at hB
  obtain ⟨⟨hs, hf⟩, hall⟩ := hB
  have hN : ∀ listed, Cl .any L.toArray listed → (aheadL L).length ∈ Region.ready .any L.toArray listed → ∀ m, m < (aheadL L).length → listed.getD m false = true := by
    intro listed hcl hr m hm
    have := List.all_eq_true.1 hall m (List.mem_range.2 (by omega))
    have hm2 : m ∈ ancB .any L.toArray L.length (L.length - 1) := by simpa using this
    rw [show L.length - 1 = (aheadL L).length by omega] at hm2
    exact anc_ready hcl hr m hm2 (by omega)
  have hL : ∀ j, L.toArray[j]? = (aheadL L ++ [o])[j]? := fun j => by rw [List.getElem?_toArray, ← h2]
  have ho : L.toArray[(aheadL L).length]? = some o := by rw [hL, List.getElem?_append_right (Nat.le_refl _), Nat.sub_self]; rfl
  rw [show L.toArray.size = (aheadL L).length + 1 by simpa using hlen]
  refine wpAnyIn_of_L (N := (aheadL L).length) (C := fun w' => ∃ k, w' = w.drewN k) (Qb := fun a' => ∀ w', (∃ k, w' = w.drewN k) → wpListIn F n P L.toArray Q [o] a' w') hro ho (fun a w' hw' hq => hq w' hw') _ _ _ _ ⟨1, rfl⟩ ?_
  refine wpAnyL_lex hs hN (aheadL L) 0 _ a (by simp) (fun j hj => ?_) (Cl.start _) ?_ h
  · rw [Nat.zero_add, hL, List.getElem?_append_left hj]
  · rw [← hlen]
    rw [show L.length - 1 = (aheadL L).length by omega] at hf
    exact hf
theorem region_last {id : Nat} {Q : Exit → Act → World → Prop} {a : Act} {w : World} {L : List Oper} (hro : F.round = none) (hm : P.follows .mixedOrders = true) (hne : L.isEmpty = false) (hB : lastB .any L.toArray = true)
    (h : wpQuietIn F n P L.toArray (fun w' => ∃ k, w' = w.drewN k) (fun a' => ∀ w', (∃ k, w' = w.drewN k) → wpListIn F n P L.toArray Q (lastL L) a' w') (aheadL L) a) : (Code.region id L.toArray true).wpIn F n P Q a w :=
  wpIn_region_any hm (any_last hro (by intro e; subst e; cases hne) hB h)
theorem region_last_round {id : Nat} {Q : Exit → Act → World → Prop} {a : Act} {w : World} {L : List Oper} (hro : F.round = none) (hm : P.follows .mixedOrders = true) (hne : L.isEmpty = false) (hB : lastB .any L.toArray = true) (hd : noDefer L = true)
    (h : wpQuietIn F n P L.toArray (fun w' => ∃ k, w' = w.drewN k) (fun a' => ∀ w', (∃ k, w' = w.drewN k) → wpListIn F n P L.toArray Q (lastL L) a' w') (aheadL L) a) : (Code.region id L.toArray true).wpIn (F.inRound r) n P Q a w :=
  wpIn_region_any hm (wpAnyIn_round (noDefer_spec hd) _ _ _ _ (any_last hro (by intro e; subst e; cases hne) hB h))
end
end Go.Proofs.Ytdjenakmdjiknaa
end

/-! Layer 9, the program's own: the walk in memory, its turn. -/
section
namespace Go.Proofs.Ytdjenakmdjiknaa
open Go.ChangeShapes Go.WideShapes Go.ChangeAt Go.RowKit Go.Shelf
set_option linter.unusedVariables false
set_option maxRecDepth 100000
attribute [local go_sem] Oper.semAt_some

/-- block b holds these cells, and then a walk. -/
def WalkB (w : World) (b : Nat) (t : TypeId) (pre : List Value) (s : WalkS) : Prop := Box w b t (pre ++ walkL s).toArray
section
variable {w w' : World} {b o : Nat} {t : TypeId} {pre : List Value} {s : WalkS}
theorem WalkB.get (h : WalkB w b t pre s) (ho : pre.length = o) (j : Nat) : w.cell? ⟨b, o + j, none⟩ = (walkL s)[j]? := by
  have := Box.get h (o + j)
  rw [this, ← ho, List.getElem?_toArray, List.getElem?_append_right (by omega), Nat.add_sub_cancel_left]
theorem WalkB.free (h : WalkB w b t pre s) (j : Nat) : w.frozen? ⟨b, j, none⟩ = false := Box.free h j
theorem WalkB.grown {row : Option Nat} (h : WalkB w b t pre s) (hg : w.grownBy w' row) (hne : some b ≠ row) : WalkB w' b t pre s := Box.grown h hg hne
theorem WalkB.put (h : WalkB w b t pre s) (ho : pre.length = o) {j : Nat} (u : Value) : Box (w.setCell ⟨b, o + j, none⟩ u) b t (pre ++ (walkL s).set j u).toArray := by
  subst ho
  have h1 := Box.put h (pre.length + j) u
  have e : (pre ++ walkL s).toArray.setIfInBounds (pre.length + j) u = (pre ++ (walkL s).set j u).toArray := by
    rw [List.setIfInBounds_toArray, List.set_append_right _ _ (by omega), Nat.add_sub_cancel_left]
  rw [e] at h1
  exact h1
theorem walkB_congr {s' : WalkS} (h : WalkB w b t pre s) (e : walkL s = walkL s') : WalkB w b t pre s' := by unfold WalkB at *; rw [← e]; exact h
theorem WalkB.put_dg (h : WalkB w b t pre s) (ho : pre.length = o) {i : Nat} (hi : i < 6) (z : Int) : WalkB (w.setCell ⟨b, o + 13 + i, none⟩ (.int .i64 z)) b t pre { s with dg := updF s.dg i z } := by
  have := h.put ho (j := 13 + i) (.int .i64 z)
  rw [walkL_put_dg s hi, ← Nat.add_assoc] at this
  exact this
theorem WalkB.put_pl (h : WalkB w b t pre s) (ho : pre.length = o) (z : Int) : WalkB (w.setCell ⟨b, o + 19, none⟩ (.int .i64 z)) b t pre { s with pl := z } := h.put ho (j := 19) _
theorem WalkB.put_on (h : WalkB w b t pre s) (ho : pre.length = o) (z : Bool) : WalkB (w.setCell ⟨b, o + 20, none⟩ (.bool z)) b t pre { s with on := z } := h.put ho (j := 20) _
theorem WalkB.put_lf (h : WalkB w b t pre s) (ho : pre.length = o) (z : Int) : WalkB (w.setCell ⟨b, o + 21, none⟩ (.int .i64 z)) b t pre { s with lf := z } := h.put ho (j := 21) _
theorem WalkB.get_sz (h : WalkB w b t pre s) (ho : pre.length = o) {i : Nat} (hi : i < 6) : w.cell? ⟨b, o + 1 + i, none⟩ = some (.int .i64 (s.sz i)) := by rw [Nat.add_assoc, h.get ho, walkL_sz s hi]
theorem WalkB.get_st (h : WalkB w b t pre s) (ho : pre.length = o) {i : Nat} (hi : i < 6) : w.cell? ⟨b, o + 7 + i, none⟩ = some (.int .i64 (s.st i)) := by rw [Nat.add_assoc, h.get ho, walkL_st s hi]
theorem WalkB.get_dg (h : WalkB w b t pre s) (ho : pre.length = o) {i : Nat} (hi : i < 6) : w.cell? ⟨b, o + 13 + i, none⟩ = some (.int .i64 (s.dg i)) := by rw [Nat.add_assoc, h.get ho, walkL_dg s hi]
end

theorem walk_info : (Try.prog.info? 62).map (·.size) = some 22 := by kernel_rfl
theorem walk_row : ∃ d, Try.prog.underlying 62 = some d ∧ d.isRow = true := ⟨_, Try.underlying62, rfl⟩
section
variable {w w' : World} {b o : Nat} {t : TypeId} {pre : List Value} {s : WalkS}
theorem WalkB.range (h : WalkB w b t pre s) (ho : pre.length = o) : w.rangeAt b o (walkL s) := fun j v hv => (h.get ho j).trans hv
theorem WalkB.there (h : WalkB w b t pre s) (ho : pre.length = o) : w.there b o 22 := fun j hj => by
  refine ⟨?_, h.free _⟩
  rw [h.get ho j, List.getElem?_eq_getElem (by rw [walkL_len]; exact hj)]
  rfl
theorem WalkB.whole (h : WalkB w b t pre s) (ho : pre.length = o) (z : WalkS) : WalkB (w.setCells b o (walkL z)) b t pre z ∧ w.grownBy (w.setCells b o (walkL z)) (some b) := by
  have key : ∀ (L1 L2 L3 : List Value) (w : World) (o : Nat), pre.length + L1.length = o → L2.length = L3.length → Box w b t (pre ++ L1 ++ L2).toArray → Box (w.setCells b o L3) b t (pre ++ L1 ++ L3).toArray ∧ w.grownBy (w.setCells b o L3) (some b) := by
    intro L1 L2 L3
    induction L3 generalizing L1 L2 with
    | nil =>
      intro w o h1 h2 h3
      obtain rfl : L2 = [] := List.eq_nil_of_length_eq_zero h2
      exact ⟨h3, grown_refl _ _⟩
    | cons x r ih =>
      intro w o h1 h2 h3
      cases L2 with
      | nil => simp at h2
      | cons y q =>
        have h4 := Box.put h3 o x
        have e : (pre ++ L1 ++ y :: q).toArray.setIfInBounds o x = (pre ++ (L1 ++ [x]) ++ q).toArray := by
          rw [List.setIfInBounds_toArray, List.set_append_right _ _ (by rw [List.length_append]; omega)]
          have : o - (pre ++ L1).length = 0 := by rw [List.length_append]; omega
          rw [this]
          simp
        rw [e] at h4
        have h5 := ih (L1 ++ [x]) q (w.setCell ⟨b, o, none⟩ x) (o + 1) (by simp; omega) (by simpa using h2) h4
        rw [show pre ++ (L1 ++ [x]) ++ r = pre ++ L1 ++ x :: r by simp] at h5
        exact ⟨h5.1, grown_join (grown_put (grown_refl _ _) (.inl rfl) _) h5.2 (.inl rfl)⟩
  have h1 := key [] (walkL s) (walkL z) w o (by simpa using ho) rfl (by rw [List.append_nil]; exact h)
  rw [List.append_nil] at h1
  exact h1
end
section
variable {ops : Array Oper} {rest : List Oper} {op : Oper} {a : Act} {w : World} {Q : Exit → Act → World → Prop} {b o : Nat} {t : TypeId} {pre : List Value} {s : WalkS}
theorem load_walk (hgd : op.guard = none) (x : Operand) (hop : op.op = .load 62 x) (hx : a.eval x = .pointer (some ⟨b, o, none⟩)) (h : WalkB w b t pre s) (ho : pre.length = o)
    (hk : wpList Try.prog ops Q rest (a.put op.dst (.agg (walkL s).toArray)) w) : wpList Try.prog ops Q (op :: rest) a w := by
  obtain ⟨d, h1, h2⟩ := walk_row
  exact wpList_load_mid hgd _ x hop b o hx (walkL s) d (h.range ho) h1 h2 walk_info hk
theorem store_walk (hgd : op.guard = none) (x y : Operand) (hop : op.op = .store 62 x y) (z : WalkS) (hx : a.eval x = .pointer (some ⟨b, o, none⟩)) (hy : a.eval y = .agg (walkL z).toArray) (h : WalkB w b t pre s) (ho : pre.length = o)
    (hk : ∀ w', Hid (WalkB w' b t pre z) → Hid (w.grownBy w' (some b)) → wpList Try.prog ops Q rest (a.put op.dst undef) w') : wpList Try.prog ops Q (op :: rest) a w :=
  wpList_store_mid hgd _ x y hop b o _ hx hy (h.there ho) walk_info (all_oneCell_toArray (walkL_one z)) (hk _ (Lib.hid (h.whole ho z).1) (Lib.hid (h.whole ho z).2))
theorem fresh_walk (w : World) : WalkB (w.alloc (.cells (walkL zeroW).toArray 62)) w.heap.size 62 [] zeroW := Box.fresh _ _ _
end

set_option maxHeartbeats 4000000 in
theorem own9_turn (b o : Nat) (t : TypeId) (pre : List Value) (s : WalkS) (v : Vw) (p : Nat) (w : World) (ho : pre.length = o) (h : WalkB w b t pre s) (hc : Core s v p) (hr : rightV v = true) (hp : (p : Int) + 1 < prodL v.sh) :
    Calls Try.prog 54 #[.pointer (some ⟨b, o, none⟩)] w fun e w' => (∃ x, e = .returned x) ∧ (∃ s', WalkB w' b t pre s' ∧ Core s' v (p + 1) ∧ s'.on = s.on ∧ s'.lf = s.lf) ∧ w.grownBy w' (some b) := by
  have HO := Lib.hid ho
  have H := Lib.hid h
  have HR := Lib.hid hr
  have HP := Lib.hid hp
  have h6 := rightV_dims hr
  have HS := Lib.hid (turn_start hr hp hc)
  obtain ⟨n, hn⟩ : ∃ n, n = v.sh.length := ⟨_, rfl⟩
  have a0 := h.get ho 0
  have m0 : IntKind.i64.wrap ((n : Int) - 1) = (n : Int) - 1 := IntWalk.i64_in _ (by omega)
  have HN := Lib.hid hn
  have HAX := Lib.hid hc.ax
  rw [← hn] at h6 HAX
  rw [Nat.add_zero] at a0
  have e0 : (walkL s)[0]? = some (.int .i64 (n : Int)) := by rw [← HAX.out]; rfl
  rw [e0] at a0
  clear h hc hr hp ho hn e0
  refine (callsIn_wide (n := 9)).1 ?_
  refine callsIn_of_wp Try.func54 rfl trivial ?_ rfl
  simp only [Try.ntmps54, List.size_toArray, List.length_cons, List.length_nil, Nat.reduceAdd, Nat.reduceSub, Array.replicate_succ, Array.replicate_zero, List.push_toArray, List.append_toArray, List.nil_append, List.cons_append]
  gi_wp2
  gi_loopw [2] (fun i wr => ∃ (m : Nat) (s' : WalkS), i = .int .i64 ((m : Int) - 1) ∧ m ≤ n ∧ WalkB wr b t pre s' ∧ Turning s' s v p m ∧ w.grownBy wr (some b)) (fun i wr => ((intOf i) + 1).toNat)
  case atStart => exact ⟨n, s, rfl, Nat.le_refl _, H.out, by rw [HN.out]; exact HS.out, grown_refl _ _⟩
  case round =>
    obtain ⟨m, s', rfl, hm, hb, ht, hg⟩ := hrel
    cases m with
    | zero => exact absurd (turn_end HR.out HP.out ht) id
    | succ i =>
      have e1 : ((i + 1 : Nat) : Int) - 1 = (i : Int) := by omega
      rw [e1]
      have hi : i < 6 := by omega
      have d0 : decide ((0 : Int) ≤ (i : Int)) = true := decide_eq_true (by omega)
      have HB := Lib.hid hb
      have HT := Lib.hid ht
      have HG := Lib.hid hg
      have hD := turn_dig HR.out HP.out (show i < v.sh.length by have := ht.le; omega)
      rw [← ht.old i (by omega), ← ht.sz i (by have := ht.le; omega)] at hD
      have m1 : wrap64 (s'.dg i + 1) = s'.dg i + 1 := IntWalk.wrap64_in _ (by omega)
      have a1 := hb.get_dg HO.out hi
      have a2 := hb.free (o + 13 + i)
      have q1 : (0 : Int) ≤ (i : Int) := Int.natCast_nonneg i
      have q2 : (i : Int) < 6 := by omega
      clear hb ht hg
      gi_wp2
      refine region_last rfl (by kernel_rfl) (by kernel_rfl) (by kernel_rfl) ?_
      dsimp only [aheadL, lastL]
      repeat (gi_big_quiet_step (fail))
      refine wpQuietIn_nil ?_
      rintro _ ⟨nq, rfl⟩
      gi_wp2
      obtain ⟨w3, hw3⟩ : ∃ w3, w3 = (wr.drewN nq).setCell ⟨b, o + 13 + i, none⟩ (.int .i64 (s'.dg i + 1)) := ⟨_, rfl⟩
      rw [← hw3]
      have HG3 := Lib.hid (show w.grownBy w3 (some b) by rw [hw3]; exact grown_put (grown_drewN HG.out _) (.inl rfl) _)
      have HB3 := Lib.hid (show WalkB w3 b t pre { s' with dg := updF s'.dg i (s'.dg i + 1) } by rw [hw3]; exact WalkB.put_dg (w := wr.drewN nq) HB.out HO.out hi _)
      clear hw3 a1 a2
      have a1 : w3.cell? ⟨b, o + 19, none⟩ = some (.int .i64 s'.pl) := HB3.out.get HO.out 19
      have a2 : w3.cell? ⟨b, o + 7 + i, none⟩ = some (.int .i64 (s'.st i)) := HB3.out.get_st HO.out hi
      have a3 := HB3.out.free (o + 19)
      refine region_last rfl (by kernel_rfl) (by kernel_rfl) (by kernel_rfl) ?_
      dsimp only [aheadL, lastL]
      repeat (gi_big_quiet_step (fail))
      refine wpQuietIn_nil ?_
      rintro _ ⟨nq2, rfl⟩
      gi_wp2
      obtain ⟨w4, hw4⟩ : ∃ w4, w4 = (w3.drewN nq2).setCell ⟨b, o + 19, none⟩ (.int .i64 (wrap64 (s'.pl + s'.st i))) := ⟨_, rfl⟩
      rw [← hw4]
      have HG4 := Lib.hid (show w.grownBy w4 (some b) by rw [hw4]; exact grown_put (grown_drewN HG3.out _) (.inl rfl) _)
      have HB4 := Lib.hid (show WalkB w4 b t pre { s' with dg := updF s'.dg i (s'.dg i + 1), pl := wrap64 (s'.pl + s'.st i) } by rw [hw4]; exact WalkB.put_pl (w := w3.drewN nq2) HB3.out HO.out _)
      clear hw4 a1 a2 a3
      have a1 : w4.cell? ⟨b, o + 13 + i, none⟩ = some (.int .i64 (s'.dg i + 1)) := by
        rw [HB4.out.get_dg HO.out hi]
        exact congrArg (fun z => some (Value.int .i64 z)) (updF_at _ _ _)
      have a2 : w4.cell? ⟨b, o + 1 + i, none⟩ = some (.int .i64 (s'.sz i)) := HB4.out.get_sz HO.out hi
      refine region_last rfl (by kernel_rfl) (by kernel_rfl) (by kernel_rfl) ?_
      dsimp only [aheadL, lastL]
      repeat (gi_big_quiet_step (fail))
      refine wpQuietIn_nil ?_
      rintro _ ⟨nq3, rfl⟩
      by_cases hd : s'.dg i + 1 < s'.sz i
      · have HC := Lib.hid (turn_go HR.out HP.out HT.out hd)
        have dd : decide (s'.dg i + 1 < s'.sz i) = true := decide_eq_true hd
        clear hd
        gi_wp2
        refine bodyPost_ret (results_none rfl _ _ _) rfl ?_
        exact ⟨⟨_, rfl⟩, ⟨_, HB4.out, HC.out, HT.out.on, HT.out.lf⟩, grown_drewN HG4.out _⟩
      · have HC := Lib.hid (turn_next HR.out HP.out HT.out hd)
        have dd : decide (s'.dg i + 1 < s'.sz i) = false := decide_eq_false hd
        clear hd
        have a3 : w4.cell? ⟨b, o + 19, none⟩ = some (.int .i64 (wrap64 (s'.pl + s'.st i))) := HB4.out.get HO.out 19
        have a4 : w4.cell? ⟨b, o + 7 + i, none⟩ = some (.int .i64 (s'.st i)) := HB4.out.get_st HO.out hi
        have a5 := HB4.out.free (o + 19)
        gi_wp2
        refine region_last rfl (by kernel_rfl) (by kernel_rfl) (by kernel_rfl) ?_
        dsimp only [aheadL, lastL]
        repeat (gi_big_quiet_step (fail))
        refine wpQuietIn_nil ?_
        rintro _ ⟨nq4, rfl⟩
        have a6 := HB4.out.free (o + 13 + i)
        gi_wp2
        have HB5 := Lib.hid (show WalkB ((w4.drewN (nq3 + nq4)).setCell ⟨b, o + 19, none⟩ (.int .i64 (wrap64 (wrap64 (s'.pl + s'.st i) - wrap64 (s'.sz i * s'.st i))))) b t pre { s' with dg := updF s'.dg i (s'.dg i + 1), pl := wrap64 (wrap64 (s'.pl + s'.st i) - wrap64 (s'.sz i * s'.st i)) } from WalkB.put_pl (w := w4.drewN (nq3 + nq4)) HB4.out HO.out _)
        have HB6 := Lib.hid (HB5.out.put_dg HO.out hi 0)
        have HG6 := Lib.hid (show w.grownBy (((w4.drewN (nq3 + nq4)).setCell ⟨b, o + 19, none⟩ (.int .i64 (wrap64 (wrap64 (s'.pl + s'.st i) - wrap64 (s'.sz i * s'.st i))))).setCell ⟨b, o + 13 + i, none⟩ (.int .i64 0)) (some b) from grown_put (grown_put (grown_drewN HG4.out _) (.inl rfl) _) (.inl rfl) _)
        go_roundw
        case rel => exact ⟨i, _, by go_num, by omega, HB6.out, HC.out, HG6.out⟩
        case measure => simp [intOf]

def NextW (b : Nat) (t : TypeId) (pre : List Value) (v : Vw) (k : Nat) (w : World) (e : Ending) (w' : World) : Prop :=
  w.grownBy w' (some b) ∧ ((k < (colL v).length ∧ e = .returned (.tuple #[.int .i64 ((colL v).getD k 0), .bool true]) ∧ ∃ s', WalkB w' b t pre s' ∧ WalkOf s' v (k + 1) true) ∨
    (¬ k < (colL v).length ∧ e = .returned (.tuple #[.int .i64 0, .bool false]) ∧ ∃ s', WalkB w' b t pre s' ∧ WalkOf s' v k false))
set_option maxHeartbeats 4000000 in
theorem own9_next (b o : Nat) (t : TypeId) (pre : List Value) (s : WalkS) (v : Vw) (k : Nat) (on : Bool) (w : World) (ho : pre.length = o) (h : WalkB w b t pre s) (hw : WalkOf s v k on) :
    Calls Try.prog 39 #[.pointer (some ⟨b, o, none⟩)] w (NextW b t pre v k w) := by
  have HO := Lib.hid ho
  have H := Lib.hid h
  have HW := Lib.hid hw
  have a0 : w.cell? ⟨b, o + 21, none⟩ = some (.int .i64 s.lf) := h.get ho 21
  have a1 := h.free (o + 20)
  have a2 : w.cell? ⟨b, o + 20, none⟩ = some (.bool s.on) := h.get ho 20
  rw [hw.on_] at a2
  clear h ho
  by_cases hl : s.lf = 0
  · have HE := Lib.hid (walk_ends hw hl)
    have HK := Lib.hid (show ¬ k < (colL v).length by rw [walk_over hw hl]; omega)
    have d0 : (s.lf == 0) = true := by simp [hl]
    clear hl hw
    go_enter Try.func39, Try.ntmps39
    go_wp2_with fail
    go_ret2
    exact ⟨grown_put (grown_refl _ _) (.inl rfl) _, .inr ⟨HK.out, rfl, _, H.out.put_on HO.out false, HE.out⟩⟩
  · have hk := walk_more hw hl
    have HK := Lib.hid hk
    have d0 : (s.lf == 0) = false := by simp [hl]
    have hlf := hw.lf
    have hsm := col_most v
    have hle := hw.le
    have m1 : IntKind.i64.wrap (s.lf - 1) = s.lf - 1 := IntWalk.i64_in _ (by omega)
    have m2 : wrap64 (s.lf - 1) = s.lf - 1 := IntWalk.wrap64_in _ (by omega)
    cases on with
    | false =>
      have HC := Lib.hid (walk_first hw hk)
      have HF := Lib.hid (walk_goes hw hk HC.out.2 rfl)
      have a3 : w.cell? ⟨b, o + 19, none⟩ = some (.int .i64 s.pl) := H.out.get HO.out 19
      have a4 := H.out.free (o + 21)
      clear hl hw hk hlf hsm hle
      go_enter Try.func39, Try.ntmps39
      go_wp2_with fail
      go_ret2
      refine ⟨grown_put (grown_put (grown_refl _ _) (.inl rfl) _) (.inl rfl) _, .inl ⟨HK.out, ?_, _, (H.out.put_on HO.out true).put_lf HO.out _, HF.out.1⟩⟩
      exact congrArg (fun z => Ending.returned (.tuple #[.int .i64 z, .bool true])) HF.out.2
    | true =>
      obtain ⟨hc, hp, hk1, hr⟩ := walk_then hw hk
      have HT := Lib.hid (own9_turn b o t pre s v (k - 1) w HO.out H.out hc hr hp)
      rw [hk1] at HT
      clear hl hc hp hk1 hr hk hlf hsm hle hw
      go_enter Try.func39, Try.ntmps39
      go_wp2_with fail
      refine HT.out.mono ?_
      rintro e w2 ⟨⟨x, rfl⟩, ⟨s', hb, hc, h1, h2⟩, hg⟩
      have HB := Lib.hid hb
      have HG := Lib.hid hg
      have HF := Lib.hid (walk_goes HW.out HK.out hc h2)
      have a3 : w2.cell? ⟨b, o + 19, none⟩ = some (.int .i64 s'.pl) := hb.get HO.out 19
      have a4 : w2.cell? ⟨b, o + 21, none⟩ = some (.int .i64 s'.lf) := hb.get HO.out 21
      rw [← h2] at m1 m2
      have a5 := hb.free (o + 20)
      have a6 := hb.free (o + 21)
      have a7 : w2.cell? ⟨b, o + 20, none⟩ = some (.bool s'.on) := hb.get HO.out 20
      clear hb hc h1 h2 hg a0 a1 a2 d0
      go_wp2_with fail
      go_ret2
      refine ⟨grown_put (grown_put HG.out (.inl rfl) _) (.inl rfl) _, .inl ⟨HK.out, ?_, _, (HB.out.put_on HO.out true).put_lf HO.out _, HF.out.1⟩⟩
      exact congrArg (fun z => Ending.returned (.tuple #[.int .i64 z, .bool true])) HF.out.2
end Go.Proofs.Ytdjenakmdjiknaa
end

/-! Layer 7: the reference's With. -/
section
namespace Go.Proofs.Ytdjenakmdjiknaa
open Go.ChangeShapes Go.WideShapes Go.ChangeAt Go.RowKit
set_option linter.unusedVariables false
set_option maxRecDepth 100000

end Go.Proofs.Ytdjenakmdjiknaa
end

/-! Layer 7: what the walks ask of the program's own shape; the law package's ints, knows. -/
section
namespace Go.Proofs.Ytdjenakmdjiknaa
open Go.ChangeShapes Go.WideShapes Go.ChangeAt Go.RowKit
set_option linter.unusedVariables false
set_option maxRecDepth 100000

theorem ints_eq7 {l l' : List Int} (hl : l.length = l'.length) (h : ∀ i, i < l.length → l.getD i 0 = l'.getD i 0) : l = l' := by
  apply List.ext_getElem hl
  intro i h1 h2
  have := h i h1
  simpa [List.getD, h1, h2] using this
/-! ### what is asked of the program's own -/
theorem atL_short (s : List Int) (p : Int) : (atL s p).length ≤ s.length := by unfold atL; split <;> simp
theorem str_short (s : List Int) : (stridesL s).length ≤ s.length := by unfold stridesL; split <;> simp
theorem without_short (s : List Int) (x : Int) : (withoutL s x).length ≤ s.length := by
  unfold withoutL
  split
  · rw [List.length_append, List.length_take, List.length_drop]; omega
  · simp
theorem with_short (s : List Int) (x y : Int) : (withL s x y).length ≤ s.length + 1 := by
  unfold withL
  split
  · rw [List.length_append, List.length_append, List.length_take, List.length_drop, List.length_singleton]; omega
  · simp
theorem perm_short (s t : List Int) : (permL s t).length ≤ t.length := by unfold permL; split <;> simp
theorem join_short (s t : List Int) : (joinL s t).length ≤ s.length := by unfold joinL; split <;> simp

/-! ### knows -/
theorem lit_numsF (w : World) (zs : List Int) (hz : zs.length ≤ 1048576) : NumsF (w.alloc (.cells (intV zs).toArray 3)) (some ⟨w.heap.size, 0, none⟩) zs.length zs.length zs := by
  have ho : OwnI (w.alloc (.cells (intV zs).toArray 3)) 0 (some ⟨w.heap.size, 0, none⟩) zs.length zs.length zs :=
    ⟨rfl, by simp [intV], .inr ⟨w.heap.size, zs.length, (intV zs).toArray, rfl, Nat.zero_le _, heap_alloc_new w _, Nat.le_refl _, by unfold maxLen; omega, by simp [intV], by rw [Nat.mul_one]; exact List.take_of_length_le (by simp [intV])⟩⟩
  exact ho.numsF
theorem two_numsF (w : World) (x y : Int) : NumsF (w.alloc (.cells #[.int .i64 x, .int .i64 y] 3)) (some ⟨w.heap.size, 0, none⟩) 2 2 [x, y] := lit_numsF w [x, y] (by simp)
theorem kn7_place : placeV [2, 3] [1, 2] = 5 ∧ placeB [2, 3] [1, 2] = true := by decide +kernel
theorem kn7_size : sizeV [2, 3] 6 = 6 ∧ sizeB [2, 3] 6 = true := by decide +kernel
theorem kn7_str : stridesL [2, 3] = [3, 1] := by decide +kernel
end Go.Proofs.Ytdjenakmdjiknaa
end

/-! Layer 7, the program's own: fits, reaches, named, every, Right, Has, Size. -/
section
namespace Go.Proofs.Ytdjenakmdjiknaa
open Go.ChangeShapes Go.WideShapes Go.ChangeAt Go.RowKit
set_option linter.unusedVariables false
set_option maxRecDepth 100000

theorem own7_fits (x z : Int) (w : World) : Calls Try.prog 63 #[.int .i64 x, .int .i64 z] w fun e w' => e = .returned (.bool (decide (0 ≤ z ∧ z ≤ 1048576))) ∧ w' = w := by
  by_cases h0 : 0 ≤ z
  · by_cases h1 : z ≤ 1048576
    · have d0 : decide (0 ≤ z) = true := decide_eq_true h0
      have d1 : decide (z ≤ 1048576) = true := decide_eq_true h1
      have HB := Lib.hid (decide_eq_true (show 0 ≤ z ∧ z ≤ 1048576 from ⟨h0, h1⟩))
      go_enter Try.func63, Try.ntmps63
      go_wp2
      go_ret
      first | exact ⟨congrArg (fun b => Ending.returned (.bool b)) HB.out.symm, rfl⟩ | exact ⟨rfl, rfl⟩
    · have d0 : decide (0 ≤ z) = true := decide_eq_true h0
      have d1 : decide (z ≤ 1048576) = false := decide_eq_false h1
      have HB := Lib.hid (decide_eq_false (show ¬ (0 ≤ z ∧ z ≤ 1048576) from fun h => h1 h.2))
      go_enter Try.func63, Try.ntmps63
      go_wp2
      go_ret
      first | exact ⟨congrArg (fun b => Ending.returned (.bool b)) HB.out.symm, rfl⟩ | exact ⟨rfl, rfl⟩
  · have d0 : decide (0 ≤ z) = false := decide_eq_false h0
    have HB := Lib.hid (decide_eq_false (show ¬ (0 ≤ z ∧ z ≤ 1048576) from fun h => h0 h.1))
    go_enter Try.func63, Try.ntmps63
    go_wp2
    go_ret
    first | exact ⟨congrArg (fun b => Ending.returned (.bool b)) HB.out.symm, rfl⟩ | exact ⟨rfl, rfl⟩
theorem own7_named (A : Option Addr) (n c : Nat) (x : Int) (w : World) : Calls Try.prog 67 #[.slice A n c, .int .i64 x] w fun e w' => e = .returned (.bool (decide (0 ≤ x ∧ x < n))) ∧ w' = w := by
  by_cases h0 : 0 ≤ x
  · by_cases h1 : x < n
    · have d0 : decide (0 ≤ x) = true := decide_eq_true h0
      have d1 : decide (x < (n : Int)) = true := decide_eq_true h1
      have HB := Lib.hid (decide_eq_true (show 0 ≤ x ∧ x < n from ⟨h0, h1⟩))
      go_enter Try.func67, Try.ntmps67
      go_wp2
      go_ret
      first | exact ⟨congrArg (fun b => Ending.returned (.bool b)) HB.out.symm, rfl⟩ | exact ⟨rfl, rfl⟩
    · have d0 : decide (0 ≤ x) = true := decide_eq_true h0
      have d1 : decide (x < (n : Int)) = false := decide_eq_false h1
      have HB := Lib.hid (decide_eq_false (show ¬ (0 ≤ x ∧ x < n) from fun h => h1 h.2))
      go_enter Try.func67, Try.ntmps67
      go_wp2
      go_ret
      first | exact ⟨congrArg (fun b => Ending.returned (.bool b)) HB.out.symm, rfl⟩ | exact ⟨rfl, rfl⟩
  · have d0 : decide (0 ≤ x) = false := decide_eq_false h0
    have HB := Lib.hid (decide_eq_false (show ¬ (0 ≤ x ∧ x < n) from fun h => h0 h.1))
    go_enter Try.func67, Try.ntmps67
    go_wp2
    go_ret
    first | exact ⟨congrArg (fun b => Ending.returned (.bool b)) HB.out.symm, rfl⟩ | exact ⟨rfl, rfl⟩
theorem own7_reaches (A : Option Addr) (n c B i : Nat) (s : List Int) (z : Int) (w : World) (h : Nums w B A n s) (hi : i < n) (hn : n ≤ 1048576) :
    Calls Try.prog 56 #[.slice A n c, .int .i64 i, .int .i64 z] w fun e w' => e = .returned (.bool (decide (0 ≤ z ∧ z < s.getD i 0))) ∧ w' = w := by
  obtain ⟨b, off, rfl, _, hc⟩ := h.2.at_ hi
  clear h
  generalize s.getD i 0 = v at *
  by_cases h0 : 0 ≤ z
  · by_cases h1 : z < v
    · have d0 : decide (0 ≤ z) = true := decide_eq_true h0
      have d1 : decide (z < v) = true := decide_eq_true h1
      have HB := Lib.hid (decide_eq_true (show 0 ≤ z ∧ z < v from ⟨h0, h1⟩))
      go_enter Try.func56, Try.ntmps56
      go_wp2
      go_ret
      first | exact ⟨congrArg (fun b => Ending.returned (.bool b)) HB.out.symm, rfl⟩ | exact ⟨rfl, rfl⟩
    · have d0 : decide (0 ≤ z) = true := decide_eq_true h0
      have d1 : decide (z < v) = false := decide_eq_false h1
      have HB := Lib.hid (decide_eq_false (show ¬ (0 ≤ z ∧ z < v) from fun h => h1 h.2))
      go_enter Try.func56, Try.ntmps56
      go_wp2
      go_ret
      first | exact ⟨congrArg (fun b => Ending.returned (.bool b)) HB.out.symm, rfl⟩ | exact ⟨rfl, rfl⟩
  · have d0 : decide (0 ≤ z) = false := decide_eq_false h0
    have HB := Lib.hid (decide_eq_false (show ¬ (0 ≤ z ∧ z < v) from fun h => h0 h.1))
    go_enter Try.func56, Try.ntmps56
    go_wp2
    go_ret
    first | exact ⟨congrArg (fun b => Ending.returned (.bool b)) HB.out.symm, rfl⟩ | exact ⟨rfl, rfl⟩
/-- it is so of all numbers, each with its place. -/
def everyB (s : List Int) (n : Nat) (so : Nat → Int → Bool) : Bool := decide (∀ i, i < n → so i (s.getD i 0) = true)
theorem every_no {s : List Int} {n : Nat} {so : Nat → Int → Bool} {k : Nat} (hk : k < n) (h : so k (s.getD k 0) = false) : everyB s n so = false := decide_eq_false fun hh => by
  have := hh k hk
  rw [h] at this
  cases this
def fitS : Nat → Int → Bool := fun _ z => decide (0 ≤ z ∧ z ≤ 1048576)
def reachS (t : List Int) : Nat → Int → Bool := fun i z => decide (0 ≤ z ∧ z < t.getD i 0)
set_option maxHeartbeats 1000000 in
theorem own7_every_fits (A : Option Addr) (n c B : Nat) (s : List Int) (w : World) (h : Nums w B A n s) (hn : n ≤ 1048576) :
    Calls Try.prog 55 #[.slice A n c, (.func (.func 63) #[] #[])] w fun e w' => e = .returned (.bool (everyB s n fitS)) ∧ w' = w := by
  have H := Lib.hid h
  have HF := Lib.hid (fun (k : Nat) (hk : k < n) (z : Int) => (show Calls Try.prog 63 #[.int .i64 k, .int .i64 z] w fun e w' => e = .returned (.bool (fitS k z)) ∧ w' = w from own7_fits k z w))
  have HE := Lib.hid (fun (k : Nat) (hk : k < n) (hh : fitS k (s.getD k 0) = false) => every_no (n := n) hk hh)
  have HY := Lib.hid (show (∀ i, i < n → fitS i (s.getD i 0) = true) → everyB s n fitS = true from fun hh => decide_eq_true hh)
  clear h
  go_enter Try.func55, Try.ntmps55
  go_wp2
  go_loop [9] (fun i => ∃ k : Nat, k ≤ n ∧ i = .int .i64 k ∧ ∀ j, j < k → fitS j (s.getD j 0) = true) (fun i => n - (intOf i).toNat)
  case atStart => exact ⟨0, Nat.zero_le _, rfl, fun j hj => by omega⟩
  case round =>
    obtain ⟨k, hk, rfl, hq⟩ := hrel
    have HQ := Lib.hid hq
    clear hq
    by_cases hlt : k < n
    · obtain ⟨b, off, rfl, _, hc⟩ := H.out.2.at_ hlt
      have HC := Lib.hid (HF.out k hlt (s.getD k 0))
      have HNO := Lib.hid (HE.out k hlt)
      have HNX := Lib.hid (show fitS k (s.getD k 0) = true → ∀ j, j < k + 1 → fitS j (s.getD j 0) = true from fun hb j hj => by
        by_cases hjk : j = k
        · subst hjk; exact hb
        · exact HQ.out j (by omega))
      generalize s.getD k 0 = v at *
      go_wp2_with fail
      refine HC.out.mono ?_
      rintro e w1 ⟨rfl, rfl⟩
      clear HC
      generalize fitS k v = ok at *
      cases ok with
      | true =>
        go_wp2
        go_round
        case rel => exact ⟨k + 1, by omega, by go_num, HNX.out (by first | rfl | trivial)⟩
        case measure => simp [intOf]; omega
      | false =>
        go_wp2
        go_ret
        exact ⟨congrArg (fun b => Ending.returned (.bool b)) (HNO.out (by first | rfl | trivial)).symm, rfl⟩
    · obtain rfl : k = n := by omega
      go_wp2
      go_ret
      exact ⟨congrArg (fun b => Ending.returned (.bool b)) (HY.out HQ.out).symm, rfl⟩
set_option maxHeartbeats 1000000 in
theorem own7_every_reaches (A : Option Addr) (n c B : Nat) (s : List Int) (A' : Option Addr) (c' B' : Nat) (t : List Int) (w : World) (h : Nums w B A n s) (hn : n ≤ 1048576) (h' : Nums w B' A' n t) :
    Calls Try.prog 55 #[.slice A n c, (.func (.func 56) #[.slice A' n c'] #[])] w fun e w' => e = .returned (.bool (everyB s n (reachS t))) ∧ w' = w := by
  have H := Lib.hid h
  have HF := Lib.hid (fun (k : Nat) (hk : k < n) (z : Int) => (show Calls Try.prog 56 #[.slice A' n c', .int .i64 k, .int .i64 z] w fun e w' => e = .returned (.bool (reachS t k z)) ∧ w' = w from own7_reaches A' n c' B' k t z w h' (by omega) (by omega)))
  have HE := Lib.hid (fun (k : Nat) (hk : k < n) (hh : (reachS t) k (s.getD k 0) = false) => every_no (n := n) hk hh)
  have HY := Lib.hid (show (∀ i, i < n → (reachS t) i (s.getD i 0) = true) → everyB s n (reachS t) = true from fun hh => decide_eq_true hh)
  clear h
  go_enter Try.func55, Try.ntmps55
  go_wp2
  go_loop [9] (fun i => ∃ k : Nat, k ≤ n ∧ i = .int .i64 k ∧ ∀ j, j < k → (reachS t) j (s.getD j 0) = true) (fun i => n - (intOf i).toNat)
  case atStart => exact ⟨0, Nat.zero_le _, rfl, fun j hj => by omega⟩
  case round =>
    obtain ⟨k, hk, rfl, hq⟩ := hrel
    have HQ := Lib.hid hq
    clear hq
    by_cases hlt : k < n
    · obtain ⟨b, off, rfl, _, hc⟩ := H.out.2.at_ hlt
      have HC := Lib.hid (HF.out k hlt (s.getD k 0))
      have HNO := Lib.hid (HE.out k hlt)
      have HNX := Lib.hid (show (reachS t) k (s.getD k 0) = true → ∀ j, j < k + 1 → (reachS t) j (s.getD j 0) = true from fun hb j hj => by
        by_cases hjk : j = k
        · subst hjk; exact hb
        · exact HQ.out j (by omega))
      generalize s.getD k 0 = v at *
      go_wp2_with fail
      refine HC.out.mono ?_
      rintro e w1 ⟨rfl, rfl⟩
      clear HC
      generalize reachS t k v = ok at *
      cases ok with
      | true =>
        go_wp2
        go_round
        case rel => exact ⟨k + 1, by omega, by go_num, HNX.out (by first | rfl | trivial)⟩
        case measure => simp [intOf]; omega
      | false =>
        go_wp2
        go_ret
        exact ⟨congrArg (fun b => Ending.returned (.bool b)) (HNO.out (by first | rfl | trivial)).symm, rfl⟩
    · obtain rfl : k = n := by omega
      go_wp2
      go_ret
      exact ⟨congrArg (fun b => Ending.returned (.bool b)) (HY.out HQ.out).symm, rfl⟩
theorem fit_right {s : List Int} {n : Nat} (hn : s.length = n) (h6 : n ≤ 6) : everyB s n fitS = rightS s := by
  subst hn
  cases hb : everyB s s.length fitS with
  | true => exact right_by (fun i hi => of_decide_eq_true (of_decide_eq_true hb i hi)) (by rw [eq_comm, decide_eq_true_eq]; exact h6)
  | false =>
    cases hr : rightS s with
    | false => rfl
    | true =>
      have := of_decide_eq_false hb
      exact absurd (fun i hi => decide_eq_true (right_at hr hi)) this
theorem right_long {s : List Int} {n : Nat} (hn : s.length = n) (h6 : ¬ n ≤ 6) : rightS s = false := decide_eq_false fun h => by rw [hn] at h; exact h6 h.2
theorem reach_has {s t : List Int} {n : Nat} (hr : rightS s = true) (hn : t.length = n) (hs : s.length = n) : everyB t n (reachS s) = hasB s t := by
  subst hn
  cases hb : everyB t t.length (reachS s) with
  | true => exact (has_by hr hs.symm fun i hi => of_decide_eq_true (of_decide_eq_true hb i (by omega))).symm
  | false =>
    have := of_decide_eq_false hb
    exact (has_not fun h => this fun i hi => decide_eq_true (h.2.2 i (by omega))).symm
theorem own7_right (A : Option Addr) (n c B : Nat) (s : List Int) (w : World) (h : Nums w B A n s) (hn : n ≤ 1048576) :
    Calls Try.prog 51 #[.slice A n c] w fun e w' => e = .returned (.bool (rightS s)) ∧ w' = w := by
  have HE := Lib.hid (own7_every_fits A n c B s w h hn)
  have hl := h.1
  clear h
  by_cases h6 : n ≤ 6
  · have d0 : decide ((n : Int) ≤ 6) = true := decide_eq_true (by omega)
    have d1 : decide (n ≤ 6) = true := decide_eq_true h6
    have HR := Lib.hid (fit_right hl h6)
    clear hl h6
    go_enter Try.func51, Try.ntmps51
    go_wp2_with fail
    refine HE.out.mono ?_
    rintro e w1 ⟨rfl, rfl⟩
    rw [HR.out]
    go_wp2_with fail
    go_ret
    first | exact ⟨rfl, rfl⟩ | (simp; done)
  · have d0 : decide ((n : Int) ≤ 6) = false := decide_eq_false (by omega)
    have d1 : decide (n ≤ 6) = false := decide_eq_false h6
    have HR := Lib.hid (right_long hl h6)
    clear hl h6
    go_enter Try.func51, Try.ntmps51
    go_wp2_with fail
    go_ret
    exact ⟨by rw [HR.out]; rfl, rfl⟩
set_option maxHeartbeats 1000000 in
theorem own7_has (A A' : Option Addr) (n c B n' c' B' : Nat) (s t : List Int) (w : World) (h : Nums w B A n s) (h' : Nums w B' A' n' t) (hn : n ≤ 1048576) (hn' : n' ≤ 1048576) :
    Calls Try.prog 40 #[.slice A n c, .slice A' n' c'] w fun e w' => e = .returned (.bool (hasB s t)) ∧ w' = w := by
  have HR := Lib.hid (own7_right A n c B s w h hn)
  have hl := h.1
  have hl' := h'.1
  cases hr : rightS s with
  | false =>
    rw [hr] at HR
    have HN := Lib.hid (show hasB s t = false from has_not (by rw [hr]; rintro ⟨h, _⟩; cases h))
    clear hr h h' hl hl'
    go_enter Try.func40, Try.ntmps40
    go_wp2_with fail
    refine HR.out.mono ?_
    rintro e w1 ⟨rfl, rfl⟩
    go_wp2_with fail
    go_ret
    exact ⟨by rw [HN.out]; rfl, rfl⟩
  | true =>
    rw [hr] at HR
    by_cases hnn : n' = n
    · subst hnn
      have HE := Lib.hid (own7_every_reaches A' n' c' B' t A c B s w h' hn h)
      have HB := Lib.hid (reach_has hr hl' hl)
      rw [HB.out] at HE
      clear HB
      generalize hasB s t = ok at *
      clear hr h h' hl hl'
      go_enter Try.func40, Try.ntmps40
      go_wp2_with fail
      refine HR.out.mono ?_
      rintro e w1 ⟨rfl, rfl⟩
      go_wp2_with fail
      refine HE.out.mono ?_
      rintro e w2 ⟨rfl, rfl⟩
      go_wp2_with fail
      go_ret
      first | exact ⟨rfl, rfl⟩ | (simp; done)
    · have HN := Lib.hid (show hasB s t = false from has_not (by rintro ⟨_, h, _⟩; rw [hl', hl] at h; exact hnn h))
      have d0 : ((n' : Int) == (n : Int)) = false := by simp; omega
      have d1 : (n' == n) = false := by simp; omega
      clear hr h h' hl hl' hnn
      go_enter Try.func40, Try.ntmps40
      go_wp2_with fail
      refine HR.out.mono ?_
      rintro e w1 ⟨rfl, rfl⟩
      go_wp2_with fail
      go_ret
      exact ⟨by rw [HN.out]; rfl, rfl⟩
set_option maxHeartbeats 1000000 in
theorem own7_size (A : Option Addr) (n c B : Nat) (s : List Int) (most : Int) (w : World) (h : Nums w B A n s) (hn : n ≤ 1048576) (hm : I64 most) :
    Calls Try.prog 35 #[.slice A n c, .int .i64 most] w fun e w' => e = .returned (.tuple #[.int .i64 (sizeV s most), .bool (sizeB s most)]) ∧ w' = w := by
  have HR := Lib.hid (own7_right A n c B s w h hn)
  have HSB := Lib.hid (show ∀ b, rightS s = b → sizeB s most = (b && prB (min most 1048576) s) from fun b hb => by unfold sizeB; rw [hb])
  cases hr : rightS s with
  | false =>
    rw [hr] at HR
    have HS := Lib.hid (show sizeB s most = false by rw [HSB.out _ hr]; rfl)
    have HV := Lib.hid (size_no HS.out)
    clear hr h
    go_enter Try.func35, Try.ntmps35
    go_wp2_with fail
    refine HR.out.mono ?_
    rintro e w1 ⟨rfl, rfl⟩
    go_wp2_with fail
    go_ret2
    exact ⟨by rw [HS.out, HV.out]; rfl, rfl⟩
  | true =>
    rw [hr] at HR
    have HP := Lib.hid (product_any (min most 1048576) A n c s w h.ints (by omega) (by omega) (right_i64 hr))
    have HS := Lib.hid (show sizeB s most = prB (min most 1048576) s by rw [HSB.out _ hr]; rfl)
    have HV := Lib.hid (show sizeV s most = pr (min most 1048576) s by
      unfold sizeV pr
      rw [HS.out])
    clear hr h
    generalize hmo : min most 1048576 = m0 at *
    have HMO := Lib.hid hmo
    clear hmo
    go_enter Try.func35, Try.ntmps35
    go_wp2_with fail
    refine HR.out.mono ?_
    rintro e w1 ⟨rfl, rfl⟩
    go_wp2_with fail
    · obtain rfl : m0 = 1048576 := by have := HMO.out; omega
      refine HP.out.mono ?_
      rintro e w2 ⟨rfl, rfl⟩
      go_wp2_with fail
      go_ret2
      exact ⟨by rw [HV.out, HS.out]; rfl, rfl⟩
    · obtain rfl : m0 = most := by have := HMO.out; omega
      refine HP.out.mono ?_
      rintro e w2 ⟨rfl, rfl⟩
      go_wp2_with fail
      go_ret2
      exact ⟨by rw [HV.out, HS.out]; rfl, rfl⟩
end Go.Proofs.Ytdjenakmdjiknaa
end
