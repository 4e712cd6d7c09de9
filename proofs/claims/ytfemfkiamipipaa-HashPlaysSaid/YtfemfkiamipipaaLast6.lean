/-
  A region that draws its order, whose operations but the last one only read: one walk of the text's order, then the last one by itself; in a round of a range over a function, too. Nothing of the program.
-/
import Derived.Test.YtfemfkiamipipaaQuietR6
namespace Go.Proofs.Ytfemfkiamipipaa
open Go.ChangeShapes Go.WideShapes Go.ChangeAt Go.RowKit
set_option linter.unusedVariables false

section
variable {F : Fence} {n r : Nat} {P : Program} {ops : Array Oper} {md : Region.Mode} {C : World → Prop}
/-- what is waited for, and what that waits for. -/
def ancB (md : Region.Mode) (ops : Array Oper) : Nat → Nat → List Nat
  | 0, k => [k]
  | f + 1, k => k :: (match ops[k]? with
    | none => []
    | some o => (o.after.toList.filter (Region.binds md)).flatMap fun e => ancB md ops f e.on)
def lastFrom (md : Region.Mode) (ops : Array Oper) : Nat → Nat → Array Bool → Bool
  | 0, k, listed => (Region.ready md ops listed == [k]) && (Region.ready md ops (listed.setIfInBounds k true)).isEmpty
  | fuel + 1, k, listed => (Region.ready md ops listed).contains k && Region.free md ops listed k && lastFrom md ops fuel (k + 1) (listed.setIfInBounds k true)
def lastB (md : Region.Mode) (ops : Array Oper) : Bool :=
  Region.noSelect ops && lastFrom md ops (ops.size - 1) 0 (Array.replicate ops.size false) && (List.range (ops.size - 1)).all fun m => (ancB md ops ops.size (ops.size - 1)).contains m
/-- what is listed had nothing to wait for. -/
def Cl (md : Region.Mode) (ops : Array Oper) (listed : Array Bool) : Prop := ∀ k o, ops[k]? = some o → listed.getD k false = true → ∀ e ∈ o.after, Region.binds md e = true → listed.getD e.on false = true
theorem getD_one {listed : Array Bool} {i : Nat} (h : listed.getD i true = false) : listed.getD i false ≠ true := by
  intro h2
  rcases Nat.lt_or_ge i listed.size with h' | h'
  · simp [h'] at h h2; rw [h] at h2; cases h2
  · simp [Array.getElem?_eq_none h'] at h
theorem Cl.start (k : Nat) : Cl md ops (Array.replicate k false) := by
  intro j o _ hj
  exfalso
  rcases Nat.lt_or_ge j k with h | h
  · simp [h] at hj
  · simp [h] at hj
theorem Cl.on {listed : Array Bool} {i : Nat} (h : Cl md ops listed) (hi : i ∈ Region.ready md ops listed) : Cl md ops (listed.setIfInBounds i true) := by
  intro k o ho hk e he hb
  by_cases hki : i = k
  · subst hki
    obtain ⟨_, o', ho', hall⟩ := mem_ready.1 hi
    rw [ho] at ho'
    injection ho' with ho'
    subst ho'
    exact getD_set_true (hall e he hb)
  · rw [getD_set_ne false hki] at hk
    exact getD_set_true (h k o ho hk e he hb)
theorem anc_listed {listed : Array Bool} (h : Cl md ops listed) : ∀ (f k : Nat), listed.getD k false = true → ∀ m ∈ ancB md ops f k, listed.getD m false = true
  | 0, k, hk, m, hm => by
    obtain rfl := List.mem_singleton.1 hm
    exact hk
  | f + 1, k, hk, m, hm => by
    rw [ancB] at hm
    rcases List.mem_cons.1 hm with rfl | hm
    · exact hk
    · cases ho : ops[k]? with
      | none => rw [ho] at hm; cases hm
      | some o =>
        rw [ho] at hm
        obtain ⟨e, he, hme⟩ := List.mem_flatMap.1 hm
        obtain ⟨h1, h2⟩ := List.mem_filter.1 he
        exact anc_listed h f e.on (h k o ho hk e (Array.mem_toList_iff.1 h1) h2) m hme
theorem anc_ready {listed : Array Bool} (h : Cl md ops listed) {f k : Nat} (hk : k ∈ Region.ready md ops listed) : ∀ m ∈ ancB md ops f k, m ≠ k → listed.getD m false = true := by
  intro m hm hne
  obtain ⟨_, o, ho, hall⟩ := mem_ready.1 hk
  cases f with
  | zero => exact absurd (List.mem_singleton.1 hm) hne
  | succ f =>
    rw [ancB, ho] at hm
    rcases List.mem_cons.1 hm with rfl | hm
    · exact absurd rfl hne
    · obtain ⟨e, he, hme⟩ := List.mem_flatMap.1 hm
      obtain ⟨h1, h2⟩ := List.mem_filter.1 he
      exact anc_listed h f e.on (hall e (Array.mem_toList_iff.1 h1) h2) m hme

/-- whatever order is picked from here on, till the last one alone is left. -/
def wpAnyL (F : Fence) (n : Nat) (P : Program) (md : Region.Mode) (ops : Array Oper) (C : World → Prop) (N : Nat) (Qb : Act → Prop) : Nat → Array Bool → Act → Prop
  | 0, listed, a => Region.ready md ops listed = [N] ∧ Region.ready md ops (listed.setIfInBounds N true) = [] ∧ Qb a
  | fuel + 1, listed, a => Region.ready md ops listed ≠ [] ∧ ∀ i ∈ Region.ready md ops listed, i ≠ N ∧ qOpIn F n P ops C i (wpAnyL F n P md ops C N Qb fuel (listed.setIfInBounds i true)) a

theorem wpAnyL_first {N : Nat} {Qb : Act → Prop} {i : Nat} {oi : Oper} {v : Value} (hi : ops[i]? = some oi) (hsel : ∀ (j : Nat) (o : Oper) cs b, ops[j]? = some o → o.op ≠ .select cs b)
    (hN : ∀ listed, Cl md ops listed → N ∈ Region.ready md ops listed → ∀ m, m < N → listed.getD m false = true) (hiN : i < N) :
    ∀ (fuel : Nat) (listed : Array Bool) (a : Act), Cl md ops listed →
      (∀ j oj, ops[j]? = some oj → j ≠ i → listed.getD j true = false → (∀ e ∈ oj.after, Region.binds md e = true → e.on ≠ i) → oi.apart ops oj = true) →
      i ∈ Region.ready md ops listed → YieldsQuiet F n P ops C oi v a →
      wpAnyL F n P md ops C N Qb fuel (listed.setIfInBounds i true) (a.put oi.dst v) → wpAnyL F n P md ops C N Qb (fuel + 1) listed a := by
  intro fuel
  induction fuel with
  | zero =>
    intro listed a hcl _ hr hy H
    have hn : ∀ j ∈ Region.ready md ops listed, j ≠ N := fun j hj e => getD_one (mem_ready.1 hr).1 (hN listed hcl (by rw [← e]; exact hj) i hiN)
    refine ⟨fun h => (by rw [h] at hr; cases hr), fun j hj => ⟨hn j hj, ?_⟩⟩
    by_cases hji : j = i
    · subst hji; exact hy.qOpIn hi H
    · have := ready_mono hj hji
      rw [H.1] at this
      exact absurd (List.mem_singleton.1 this) (hn j hj)
  | succ fuel ih =>
    intro listed a hcl hfree hr hy H
    have hn : ∀ j ∈ Region.ready md ops listed, j ≠ N := fun j hj e => getD_one (mem_ready.1 hr).1 (hN listed hcl (by rw [← e]; exact hj) i hiN)
    refine ⟨fun h => (by rw [h] at hr; cases hr), fun j hj => ⟨hn j hj, ?_⟩⟩
    by_cases hji : j = i
    · subst hji; exact hy.qOpIn hi H
    · have h1 := (H.2 j (ready_mono hj hji)).2
      obtain ⟨hjun, oj, hoj, hall⟩ := mem_ready.1 hj
      have hnot : ∀ e ∈ oj.after, Region.binds md e = true → e.on ≠ i := fun e he hb heq => by
        have h1 := hall e he hb
        rw [heq] at h1
        exact getD_one (mem_ready.1 hr).1 h1
      have h2 := qOpIn_put hoj (hfree j oj hoj hji hjun hnot) (fun cs b => hsel i oi cs b hi) (fun cs b => hsel j oj cs b hoj) hy h1
      have hfree' : ∀ k ok, ops[k]? = some ok → k ≠ i → (listed.setIfInBounds j true).getD k true = false →
          (∀ e ∈ ok.after, Region.binds md e = true → e.on ≠ i) → oi.apart ops ok = true := fun k ok hk hki hun hno => by
        refine hfree k ok hk hki ?_ hno
        by_cases hjk : j = k
        · subst hjk; exact hjun
        · rw [getD_set_ne true hjk] at hun; exact hun
      refine qOpIn_mono (fun a' h3 => ih (listed.setIfInBounds j true) a' (hcl.on hj) hfree' (ready_mono hr (Ne.symm hji)) h3.1 ?_) h2
      rw [Array.setIfInBounds_comm _ _ hji]
      exact h3.2
theorem wpAnyL_lex {N : Nat} {Qb : Act → Prop} (hs : Region.noSelect ops = true) (hN : ∀ listed, Cl md ops listed → N ∈ Region.ready md ops listed → ∀ m, m < N → listed.getD m false = true) :
    ∀ (l : List Oper) (k : Nat) (listed : Array Bool) (a : Act), k + l.length = N → (∀ j, j < l.length → l[j]? = ops[k + j]?) → Cl md ops listed →
    lastFrom md ops l.length k listed = true → wpQuietIn F n P ops C Qb l a → wpAnyL F n P md ops C N Qb l.length listed a
  | [], k, listed, a, hk, _, _, hB, h => by
    simp only [List.length_nil, Nat.add_zero] at hk
    subst hk
    simp only [List.length_nil, lastFrom, Bool.and_eq_true, beq_iff_eq, List.isEmpty_iff] at hB
    exact ⟨hB.1, hB.2, h⟩
  | o :: l, k, listed, a, hk, hl, hcl, hB, h => by
    have h0 : ops[k]? = some o := by have := hl 0 (by simp); simpa using this.symm
    simp only [List.length_cons, lastFrom, Bool.and_eq_true] at hB
    obtain ⟨⟨hr, hf⟩, hB'⟩ := hB
    have hr : k ∈ Region.ready md ops listed := by simpa using hr
    have hst : qOpIn F n P ops C k (wpQuietIn F n P ops C Qb l) a := by unfold qOpIn; simp only [h0]; exact h
    obtain ⟨v, hy, hK⟩ := yieldsQuiet_of_qOpIn h0 hst
    simp only [List.length_cons] at hk
    exact wpAnyL_first h0 (Region.noSelect_spec hs) hN (by omega) l.length listed a hcl (Region.free_spec h0 hf) hr hy
      (wpAnyL_lex hs hN l (k + 1) _ _ (by omega) (fun j hj => by have := hl (j + 1) (by simp; omega); simpa [Nat.add_assoc, Nat.add_comm 1 j] using this) (hcl.on hr) hB' hK)
theorem wpAnyIn_of_L {Q : Exit → Act → World → Prop} {N : Nat} {Qb : Act → Prop} {o : Oper} (hro : F.round = none) (ho : ops[N]? = some o) (hQ : ∀ a w, C w → Qb a → wpListIn F n P ops Q [o] a w) :
    ∀ (fuel : Nat) (listed : Array Bool) (a : Act) (w : World), C w → wpAnyL F n P md ops C N Qb fuel listed a → wpAnyIn F n P md ops Q (fuel + 1) listed a w
  | 0, listed, a, w, hw, H => by
    refine ⟨fun h => (by rw [H.1] at h; cases h), fun i hi => ?_⟩
    rw [H.1] at hi
    obtain rfl := List.mem_singleton.1 hi
    have hq := hQ a w hw H.2.2
    simp only [wpListIn] at hq
    unfold wpOpIn
    simp only [ho]
    by_cases hwt : Region.wanted o (yielded ops a.tmps) = true
    · simp only [hwt, if_true] at hq ⊢
      exact Oper.wpIn_mono (fun a w h => ⟨H.2.1, h⟩) hq
    · simp only [hwt] at hq ⊢
      exact ⟨hq.1, H.2.1, hq.2⟩
  | fuel + 1, listed, a, w, hw, H =>
    ⟨fun h => absurd h H.1, fun i hi => wpOpIn_of_qOpIn hro hw (fun a' w' hw' => wpAnyIn_of_L hro ho hQ fuel _ a' w' hw') (H.2 i hi).2⟩
def aheadL : List Oper → List Oper
  | [] => []
  | [_] => []
  | a :: b :: l => a :: aheadL (b :: l)
def lastL : List Oper → List Oper
  | [] => []
  | [o] => [o]
  | _ :: b :: l => lastL (b :: l)
theorem ahead_last : ∀ (L : List Oper), L ≠ [] → ∃ o, lastL L = [o] ∧ L = aheadL L ++ [o]
  | [], h => absurd rfl h
  | [o], _ => ⟨o, rfl, rfl⟩
  | a :: b :: l, _ => by
    obtain ⟨o, h1, h2⟩ := ahead_last (b :: l) (by simp)
    exact ⟨o, h1, by rw [aheadL, List.cons_append, ← h2]⟩
theorem any_last {Q : Exit → Act → World → Prop} {a : Act} {w : World} {L : List Oper} (hro : F.round = none) (hne : L ≠ []) (hB : lastB .any L.toArray = true)
    (h : wpQuietIn F n P L.toArray (fun w' => ∃ k, w' = w.drewN k) (fun a' => ∀ w', (∃ k, w' = w.drewN k) → wpListIn F n P L.toArray Q (lastL L) a' w') (aheadL L) a) :
    wpAnyIn F n P .any L.toArray Q L.toArray.size (Array.replicate L.toArray.size false) a { w with drawn := w.drawn + 1 } := by
  obtain ⟨o, h1, h2⟩ := ahead_last L hne
  rw [h1] at h
  have hlen : L.length = (aheadL L).length + 1 := by
    have := congrArg List.length h2
    simpa using this
  simp only [lastB, Bool.and_eq_true, List.size_toArray] at hB
  obtain ⟨⟨hs, hf⟩, hall⟩ := hB
  have hN : ∀ listed, Cl .any L.toArray listed → (aheadL L).length ∈ Region.ready .any L.toArray listed → ∀ m, m < (aheadL L).length → listed.getD m false = true := by
    intro listed hcl hr m hm
    have := List.all_eq_true.1 hall m (List.mem_range.2 (by omega))
    have hm2 : m ∈ ancB .any L.toArray L.length (L.length - 1) := by simpa using this
    rw [show L.length - 1 = (aheadL L).length by omega] at hm2
    exact anc_ready hcl hr m hm2 (by omega)
  have hL : ∀ j, L.toArray[j]? = (aheadL L ++ [o])[j]? := fun j => by rw [List.getElem?_toArray, ← h2]
  have ho : L.toArray[(aheadL L).length]? = some o := by rw [hL, List.getElem?_append_right (Nat.le_refl _), Nat.sub_self]; rfl
  rw [show L.toArray.size = (aheadL L).length + 1 by simpa using hlen]
  refine wpAnyIn_of_L (N := (aheadL L).length) (C := fun w' => ∃ k, w' = w.drewN k) (Qb := fun a' => ∀ w', (∃ k, w' = w.drewN k) → wpListIn F n P L.toArray Q [o] a' w') hro ho (fun a w' hw' hq => hq w' hw') _ _ _ _ ⟨1, rfl⟩ ?_
  refine wpAnyL_lex hs hN (aheadL L) 0 _ a (by simp) (fun j hj => ?_) (Cl.start _) ?_ h
  · rw [Nat.zero_add, hL, List.getElem?_append_left hj]
  · rw [← hlen]
    rw [show L.length - 1 = (aheadL L).length by omega] at hf
    exact hf
theorem region_last {id : Nat} {Q : Exit → Act → World → Prop} {a : Act} {w : World} {L : List Oper} (hro : F.round = none) (hm : P.follows .mixedOrders = true) (hne : L.isEmpty = false) (hB : lastB .any L.toArray = true)
    (h : wpQuietIn F n P L.toArray (fun w' => ∃ k, w' = w.drewN k) (fun a' => ∀ w', (∃ k, w' = w.drewN k) → wpListIn F n P L.toArray Q (lastL L) a' w') (aheadL L) a) : (Code.region id L.toArray true).wpIn F n P Q a w :=
  wpIn_region_any hm (any_last hro (by intro e; subst e; cases hne) hB h)
theorem region_last_round {id : Nat} {Q : Exit → Act → World → Prop} {a : Act} {w : World} {L : List Oper} (hro : F.round = none) (hm : P.follows .mixedOrders = true) (hne : L.isEmpty = false) (hB : lastB .any L.toArray = true) (hd : noDefer L = true)
    (h : wpQuietIn F n P L.toArray (fun w' => ∃ k, w' = w.drewN k) (fun a' => ∀ w', (∃ k, w' = w.drewN k) → wpListIn F n P L.toArray Q (lastL L) a' w') (aheadL L) a) : (Code.region id L.toArray true).wpIn (F.inRound r) n P Q a w :=
  wpIn_region_any hm (wpAnyIn_round (noDefer_spec hd) _ _ _ _ (any_last hro (by intro e; subst e; cases hne) hB h))
end
end Go.Proofs.Ytfemfkiamipipaa
