/-
  WHAT MAY TURN BETWEEN TWO BLOCKS (Turn); cells with a number or without, plain.
-/
import Derived.Test.YtabkgdichlebmaaMem
import Derived.Test.YtabkgdichlebmaaBase
namespace Go.Proofs.Ytabkgdichlebmaa
open Go.ChangeShapes Go.WideShapes Go.ChangeAt Go.RowKit
set_option linter.unusedVariables false

/-- what was there outside the blocks from lo on, ahead of hi, is as it was. -/
def Turn (lo hi : Nat) (w w' : World) : Prop :=
  w'.os = w.os ∧ w'.tape = w.tape ∧ w'.output = w.output ∧ w.heap.size ≤ w'.heap.size ∧ ∀ x, x < w.heap.size → x < lo ∨ hi ≤ x → w'.heap[x]? = w.heap[x]?
section
variable {a b c w w' : World} {lo hi lo' hi' : Nat} {r : Option Nat}
theorem Turn.refl (lo hi : Nat) (w : World) : Turn lo hi w w := ⟨rfl, rfl, rfl, Nat.le_refl _, fun _ _ _ => rfl⟩
theorem Turn.size (h : Turn lo hi w w') : w.heap.size ≤ w'.heap.size := h.2.2.2.1
theorem Turn.trans (h : Turn lo hi a b) (k : Turn lo hi b c) : Turn lo hi a c :=
  ⟨k.1.trans h.1, k.2.1.trans h.2.1, k.2.2.1.trans h.2.2.1, Nat.le_trans h.size k.size, fun x hx hd => (k.2.2.2.2 x (Nat.lt_of_lt_of_le hx h.size) hd).trans (h.2.2.2.2 x hx hd)⟩
theorem Turn.of_grown (h : w.grownBy w' none) : Turn lo hi w w' := ⟨h.os, h.tape, h.output, h.size, fun x hx _ => h.block x hx (by simp)⟩
theorem Turn.of_row (h : w.grownBy w' r) (hr : ∀ x, r = some x → lo ≤ x ∧ x < hi) : Turn lo hi w w' :=
  ⟨h.os, h.tape, h.output, h.size, fun x hx hd => h.block x hx fun e => by have := hr x e.symm; omega⟩
theorem Turn.grown (h : Turn lo hi a b) (k : b.grownBy c none) : Turn lo hi a c := h.trans (Turn.of_grown k)
theorem Turn.grown' (h : a.grownBy b none) (k : Turn lo hi b c) : Turn lo hi a c := (Turn.of_grown h).trans k
theorem Turn.drewN (h : Turn lo hi a b) (n : Nat) : Turn lo hi a (b.drewN n) := h
theorem Turn.alloc (h : Turn lo hi a b) (o : Obj) : Turn lo hi a (b.alloc o) := h.grown (World.grownBy_alloc b o none)
/-- what turns lies behind the old memory. -/
theorem Turn.after (h : a.grownBy b none) (k : Turn lo hi b c) (hl : a.heap.size ≤ lo) : a.grownBy c none :=
  ⟨k.1.trans h.os, k.2.1.trans h.tape, k.2.2.1.trans h.output, Nat.le_trans h.size k.size, fun x hx _ => (k.2.2.2.2 x (Nat.lt_of_lt_of_le hx h.size) (.inl (by omega))).trans (h.block x hx (by simp))⟩
theorem Turn.below (k : Turn lo hi b c) (hl : b.heap.size ≤ lo) : b.grownBy c none := Turn.after (grown_refl b none) k hl
theorem Turn.block (h : Turn lo hi w w') {x : Nat} (hx : x < w.heap.size) (hd : x < lo ∨ hi ≤ x) : w'.heap[x]? = w.heap[x]? := h.2.2.2.2 x hx hd
theorem Turn.box {g : Nat} {t : TypeId} {cs : Array Value} (h : Turn lo hi w w') (hb : Box w g t cs) (hd : g < lo ∨ hi ≤ g) : Box w' g t cs := (h.block hb.small hd).trans hb
theorem Turn.cell (h : Turn lo hi w w') {p : Addr} (hx : p.block < w.heap.size) (hd : p.block < lo ∨ hi ≤ p.block) : w'.cell? p = w.cell? p := World.cell?_of_block (h.block hx hd)
theorem Turn.own {base n : Nat} {e : TypeId} {size : Nat} {v : Value} {xs : List Value} (h : Turn lo hi w w') (ho : w.ownsRow base e size v n xs) (hd : ∀ k, v.ownBlock = some k → k < lo ∨ hi ≤ k) : w'.ownsRow base e size v n xs := by
  refine ⟨ho.1, ?_⟩
  rcases ho.2 with h0 | ⟨k, cap, cur, hv, hb, hk, rest⟩
  · exact .inl h0
  · refine .inr ⟨k, cap, cur, hv, hb, ?_, rest⟩
    have hlt : k < w.heap.size := (Array.getElem?_eq_some_iff.1 hk).1
    exact (h.block hlt (hd k (by rw [hv]; rfl))).trans hk
end

/-- a number, or none. -/
structure Cel where
  v : Int
  ok : Bool
instance : DecidableEq Cel := fun a b => decidable_of_iff (a.v = b.v ∧ a.ok = b.ok) ⟨fun h => by cases a; cases b; simp_all, fun h => by subst h; exact ⟨rfl, rfl⟩⟩
def noCel : Cel := ⟨0, false⟩
def Cel.norm (c : Cel) : Cel := if c.ok then c else noCel
theorem Cel.norm_ok (c : Cel) : c.norm.ok = c.ok := by
  unfold Cel.norm
  cases h : c.ok
  · rfl
  · exact h
theorem Cel.norm_norm (c : Cel) : c.norm.norm = c.norm := by
  unfold Cel.norm
  cases h : c.ok
  · rfl
  · simp [h]
theorem norm_no : noCel.norm = noCel := rfl
theorem Cel.norm_yes (v : Int) : (Cel.mk v true).norm = ⟨v, true⟩ := rfl
theorem Cel.norm_not (v : Int) : (Cel.mk v false).norm = noCel := rfl
theorem Cel.norm_eq {a b : Cel} : a.norm = b.norm ↔ a.norm.v = b.norm.v ∧ a.ok = b.ok := by
  constructor
  · intro h
    exact ⟨by rw [h], by rw [← a.norm_ok, ← b.norm_ok, h]⟩
  · intro ⟨h1, h2⟩
    rw [← a.norm_ok, ← b.norm_ok] at h2
    cases ha : a.norm; cases hb : b.norm
    rw [ha, hb] at h1 h2
    simp_all
def norms (l : List Cel) : List Cel := l.map Cel.norm
theorem norms_length (l : List Cel) : (norms l).length = l.length := by simp [norms]
theorem norms_get (l : List Cel) (i : Nat) : (norms l).getD i noCel = (l.getD i noCel).norm := by
  unfold norms
  by_cases h : i < l.length
  · simp [List.getD, h]
  · simp [List.getD, List.getElem?_eq_none (Nat.le_of_not_lt h), norm_no]
theorem norms_norms (l : List Cel) : norms (norms l) = norms l := by
  unfold norms
  rw [List.map_map]
  congr 1
  funext c
  exact c.norm_norm
theorem cels_eq {l l' : List Cel} (hl : l.length = l'.length) (h : ∀ i, i < l.length → l.getD i noCel = l'.getD i noCel) : l = l' := by
  apply List.ext_getElem hl
  intro i h1 h2
  have := h i h1
  simpa [List.getD, h1, h2] using this
def oks (l : List Cel) : List Bool := l.map Cel.ok
def numL (l : List Cel) (i : Nat) : Int := (l.getD i noCel).norm.v
def numsV (l : List Cel) : List Value := l.map fun c => .int .i64 c.norm.v
theorem oks_length (l : List Cel) : (oks l).length = l.length := by simp [oks]
theorem numsV_length (l : List Cel) : (numsV l).length = l.length := by simp [numsV]
theorem oks_get (l : List Cel) (i : Nat) : (oks l).getD i false = (l.getD i noCel).ok := by
  unfold oks
  by_cases h : i < l.length
  · simp [List.getD, h]
  · simp [List.getD, List.getElem?_eq_none (Nat.le_of_not_lt h), noCel]
theorem numsV_get (l : List Cel) (i : Nat) (h : i < l.length) : (numsV l)[i]? = some (.int .i64 (numL l i)) := by
  unfold numL numsV
  simp [List.getD, h]
/-- two rows tell the same just if their numbers and their marks are the same. -/
theorem norms_eq_iff (l l' : List Cel) : norms l = norms l' ↔ l.length = l'.length ∧ (∀ i, i < l.length → numL l i = numL l' i) ∧ oks l = oks l' := by
  constructor
  · intro h
    have hl : l.length = l'.length := by rw [← norms_length l, ← norms_length l', h]
    have hg : ∀ i, (l.getD i noCel).norm = (l'.getD i noCel).norm := fun i => by rw [← norms_get, ← norms_get, h]
    refine ⟨hl, fun i _ => congrArg Cel.v (hg i), ?_⟩
    apply List.ext_getElem (by rw [oks_length, oks_length, hl])
    intro i h1 h2
    have e1 := oks_get l i
    have e2 := oks_get l' i
    have := (Cel.norm_eq.1 (hg i)).2
    simp only [List.getD, List.getElem?_eq_getElem h1, List.getElem?_eq_getElem h2, Option.getD_some] at e1 e2
    rw [e1, e2]
    exact this
  · intro ⟨hl, hn, ho⟩
    refine cels_eq (by rw [norms_length, norms_length, hl]) fun i hi => ?_
    rw [norms_length] at hi
    rw [norms_get, norms_get]
    exact Cel.norm_eq.2 ⟨hn i hi, by rw [← oks_get, ← oks_get, ho]⟩
end Go.Proofs.Ytabkgdichlebmaa
