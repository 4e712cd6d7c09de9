/-
  Layer 5: the reference's Parts, Right, Compare.
-/
import Derived.Test.YtfemfkiamipipaaRef5d
import Derived.Deep.RegionHeld3
import Derived.Deep.DeepCutAuto
namespace Go.Proofs.Ytfemfkiamipipaa
open Go.ChangeShapes Go.WideShapes Go.ChangeAt Go.RowKit
set_option linter.unusedVariables false

/-- the slice at A tells o: nil, or the parts. -/
def PartsV (e : TypeId) (o : Option (List Lab)) (base : Nat) (A : Option Addr) (n c : Nat) (w : World) : Prop :=
  (o = none ∧ A = none ∧ n = 0 ∧ c = 0) ∨ ∃ out, o = some out ∧ n = out.length ∧ A.isSome = true ∧ OwnL w base e A n c out
def PartsG (e : TypeId) (o : Option (List Lab)) (w : World) (en : Ending) (w' : World) : Prop := ∃ A n c, en = .returned (.slice A n c) ∧ PartsV e o w.heap.size A n c w' ∧ w.grownBy w' none
theorem PartsEnd.told {e : TypeId} {o : Option (List Lab)} {w w' : World} {en : Ending} (h : PartsEnd e o w en w') : PartsG e o w en w' := by
  rcases h with ⟨rfl, rfl, hg⟩ | ⟨out, A, c, rfl, rfl, ho, hg⟩
  · exact ⟨_, _, _, rfl, .inl ⟨rfl, rfl, rfl, rfl⟩, hg⟩
  · exact ⟨_, _, _, rfl, .inr ⟨out, rfl, rfl, rfl, ho⟩, hg⟩
theorem PartsV.grow {e : TypeId} {o : Option (List Lab)} {base n c : Nat} {A : Option Addr} {w w' : World} (h : PartsV e o base A n c w) (hg : w.grownBy w' none) : PartsV e o base A n c w' := by
  rcases h with h | ⟨out, h1, h2, h3, h4⟩
  · exact .inl h
  · exact .inr ⟨out, h1, h2, h3, h4.grow hg⟩
theorem ref5Parts_any (k n : Int) (s : ByteArray) (w : World) (hs : s.size ≤ 1048576) : Calls Try.prog 39 #[.agg #[.int .u8 k, .int .i64 n, .string s]] w (PartsG 39 (partsE ⟨k, n, s⟩) w) := by
  by_cases hk : k = 2
  · subst hk
    exact (ref5Parts_tuple n s w hs).mono fun _ _ h => h.told
  · exact (ref5Parts_plain k n s w hs hk).mono fun _ _ h => h.told
theorem neq_nil_rlab (A : Option Addr) (n c : Nat) (w : World) : (binOp .neq 22 (.slice A n c) (.slice none 0 0)).run Try.prog w = .ok (.bool A.isSome) w := by
  rw [run_neq_slice_nil_any w _ _ A n c 0 0 Try.underlying22]
  cases A <;> rfl
theorem eql_nil_rlab (A : Option Addr) (n c : Nat) (w : World) : (binOp .eql 22 (.slice A n c) (.slice none 0 0)).run Try.prog w = .ok (.bool A.isNone) w :=
  Lib.run_eql_slice_nil w 22 39 A n c 0 0 Try.underlying22
theorem PartsV.right {e : TypeId} {a : Lab} {base n c : Nat} {A : Option Addr} {w : World} (h : PartsV e (partsE a) base A n c w) : A.isSome = rightE a := by
  unfold rightE
  rcases h with ⟨h1, rfl, _, _⟩ | ⟨out, h1, _, h3, _⟩
  · rw [h1]; rfl
  · rw [h1]
    cases A with
    | none => cases h3
    | some _ => rfl
set_option maxHeartbeats 1000000 in
theorem ref5Right_any (k n : Int) (s : ByteArray) (w : World) (hs : s.size ≤ 1048576) : Calls Try.prog 32 #[.agg #[.int .u8 k, .int .i64 n, .string s]] w (ToldG (.bool (rightE ⟨k, n, s⟩)) w) := by
  have HPA := Lib.hid (fun w' => ref5Parts_any k n s w' hs)
  have HQ := Lib.hid neq_nil_rlab
  have HG := Lib.hid (World.grownBy_alloc w (.cells #[.int .u8 k, .int .i64 n, .string s] 39) none)
  go_enter Try.func32, Try.ntmps32
  go_wp2_with fail
  refine (HPA.out _).mono ?_
  rintro e w1 ⟨A, n1, c1, rfl, hp, hg⟩
  have HR := Lib.hid hp.right
  have HG := Lib.hid (grown_join HG.out hg (.inr (by simp)))
  have hq := HQ.out A n1 c1
  clear hp hg
  go_wp2_with fail
  go_ret
  exact toldG_eq (by rw [← HR.out]; rfl) HG.out
/-- what stands behind the two calls of Parts. -/
def Both5 (a b : Lab) (w : World) (v5 v6 : Value) (w' : World) : Prop :=
  ∃ A n c A' n' c', v5 = .slice A n c ∧ v6 = .slice A' n' c' ∧ PartsV 39 (partsE a) w.heap.size A n c w' ∧ PartsV 39 (partsE b) w.heap.size A' n' c' w' ∧ w.grownBy w' none
theorem PartsV.lower {e : TypeId} {o : Option (List Lab)} {base B n c : Nat} {A : Option Addr} {w : World} (h : PartsV e o base A n c w) (hb : B ≤ base) : PartsV e o B A n c w := by
  rcases h with h | ⟨out, h1, h2, h3, h4⟩
  · exact .inl h
  · exact .inr ⟨out, h1, h2, h3, h4.lower hb⟩
theorem cells3 {w : World} {g : Nat} {t : TypeId} {u v x : Value} (h : Box w g t #[u, v, x]) : w.cell? ⟨g, 0, none⟩ = some u ∧ w.cell? ⟨g, 1, none⟩ = some v ∧ w.cell? ⟨g, 2, none⟩ = some x := ⟨h.get 0, h.get 1, h.get 2⟩
theorem keep3 {w w' : World} {g : Nat} {t : TypeId} {u v x : Value} (h : Box w g t #[u, v, x]) (hg : w.grownBy w' none) : w'.cell? ⟨g, 0, none⟩ = some u ∧ w'.cell? ⟨g, 1, none⟩ = some v ∧ w'.cell? ⟨g, 2, none⟩ = some x := cells3 (h.grown hg (by simp))
theorem parse_le : ∀ (f : Nat) (l : List UInt8) (out : List Lab), parseL f l = some out → out.length ≤ f
  | _, [], out, h => by
    have : out = [] := by cases ‹Nat› <;> (simp [parseL] at h; exact h)
    subst this; exact Nat.zero_le _
  | 0, _ :: _, out, h => by simp [parseL] at h
  | f + 1, c :: t, out, h => by
    rw [parse_step] at h
    split at h
    · cases hp : parseL f (t.drop 8) with
      | none => rw [hp] at h; simp at h
      | some o =>
        rw [hp] at h
        simp at h
        subst h
        have := parse_le f _ o hp
        simp; omega
    · cases t with
      | nil => simp at h
      | cons m r =>
        simp only at h
        split at h
        · cases hp : parseL f (r.drop m.toNat) with
          | none => rw [hp] at h; simp at h
          | some o =>
            rw [hp] at h
            simp at h
            subst h
            have := parse_le f _ o hp
            simp; omega
        · simp at h
theorem parts_le {a : Lab} {out : List Lab} (h : partsE a = some out) : out.length ≤ 4 := by
  by_cases hk : a.k = 2
  · unfold partsE at h
    rw [if_neg (by omega), if_neg (by omega)] at h
    cases hp : parseL 4 a.s.data.toList with
    | none => rw [hp] at h; simp at h
    | some o =>
      rw [hp] at h
      simp only at h
      split at h
      · injection h with h
        subst h
        exact parse_le 4 _ _ hp
      · cases h
  · rw [(parts_simple hk h).2]; simp
theorem lab_cons {X : List Lab} {j : Nat} (h : j < X.length) : X.drop j = X.getD j noLab :: X.drop (j + 1) := by
  rw [List.drop_eq_getElem_cons h]
  simp only [List.getD, List.getElem?_eq_getElem h, Option.getD_some]
theorem listC_step {X Y : List Lab} {j : Nat} (h : j < X.length) (h' : j < Y.length) : listC simC (X.drop j) (Y.drop j) = if simC (X.getD j noLab) (Y.getD j noLab) = 0 then listC simC (X.drop (j + 1)) (Y.drop (j + 1)) else simC (X.getD j noLab) (Y.getD j noLab) := by
  rw [lab_cons h, lab_cons h']; rfl
theorem PartsV.some {e : TypeId} {a : Lab} {base n c : Nat} {A : Option Addr} {w : World} (h : PartsV e (partsE a) base A n c w) (hr : rightE a = true) : ∃ X, partsE a = some X ∧ X.length = n ∧ OwnL w base e A n c X := by
  rcases h with ⟨h1, _⟩ | ⟨out, h1, h2, _, h4⟩
  · unfold rightE at hr; rw [h1] at hr; cases hr
  · exact ⟨out, h1, h2.symm, h4⟩
theorem six_keep {w w' : World} {p1 p2 p3 p4 p5 p6 : Addr} {v1 v2 v3 v4 v5 v6 : Value} (h : w.cell? p1 = some v1 ∧ w.cell? p2 = some v2 ∧ w.cell? p3 = some v3 ∧ w.cell? p4 = some v4 ∧ w.cell? p5 = some v5 ∧ w.cell? p6 = some v6) (hg : w.grownBy w' none) :
    w'.cell? p1 = some v1 ∧ w'.cell? p2 = some v2 ∧ w'.cell? p3 = some v3 ∧ w'.cell? p4 = some v4 ∧ w'.cell? p5 = some v5 ∧ w'.cell? p6 = some v6 := by
  have k : ∀ {p : Addr} {v : Value}, w.cell? p = some v → w'.cell? p = some v := fun {p v} hp => (World.cell?_of_block (hg.block p.block (World.block_lt_of_cell? w _ hp) (by simp))).trans hp
  exact ⟨k h.1, k h.2.1, k h.2.2.1, k h.2.2.2.1, k h.2.2.2.2.1, k h.2.2.2.2.2⟩
end Go.Proofs.Ytfemfkiamipipaa
