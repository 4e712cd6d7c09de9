/-
  MEMORY THAT A CALL MADE: a block known whole (Box), what may have turned (Grow, and the library's grownBy), rows of the call's own that move on.
-/
import Derived.Test.YtkpfhjjojchdlaaRows
import Derived.WalkKit
import Derived.ProofKit
import Derived.OneCell
import Derived.Deep.Draws
import Derived.Lib.Hide
namespace Go.Proofs.Ytkpfhjjojchdlaa
open Go.ChangeShapes Go.WideShapes Go.ChangeAt Go.RowKit
set_option linter.unusedVariables false

section
variable {w w' : World} {g : Nat} {t : TypeId} {cs : Array Value}
/-- block g holds just these cells. -/
def Box (w : World) (g : Nat) (t : TypeId) (cs : Array Value) : Prop := w.heap[g]? = some (.cells cs t (0, 0))
theorem Box.small (h : Box w g t cs) : g < w.heap.size := (Array.getElem?_eq_some_iff.1 h).1
theorem Box.get (h : Box w g t cs) (i : Nat) : w.cell? ⟨g, i, none⟩ = cs[i]? := cell_of_row w g i cs t (0, 0) h
theorem Box.free (h : Box w g t cs) (i : Nat) : w.frozen? ⟨g, i, none⟩ = false := by
  have h' : w.heap[g]? = some (.cells cs t (0, 0)) := h
  simp [World.frozen?, h']
theorem Box.grown {row : Option Nat} (h : Box w g t cs) (hg : w.grownBy w' row) (hne : some g ≠ row) : Box w' g t cs := (hg.block g h.small hne).trans h
theorem Box.fresh (w : World) (t : TypeId) (cs : Array Value) : Box (w.alloc (.cells cs t)) w.heap.size t cs := heap_alloc_new w _
theorem Box.alloc (h : Box w g t cs) (o : Obj) : Box (w.alloc o) g t cs := (Below.heap_alloc w o g h.small).trans h
theorem Box.drewN (h : Box w g t cs) (n : Nat) : Box (w.drewN n) g t cs := h
theorem Box.put (h : Box w g t cs) (i : Nat) (u : Value) : Box (w.setCell ⟨g, i, none⟩ u) g t (cs.setIfInBounds i u) := by
  have h' : w.heap[g]? = some (.cells cs t (0, 0)) := h
  show (w.setCell ⟨g, i, none⟩ u).heap[g]? = _
  simp [World.setCell, Array.getElem?_modify, h']
theorem Box.apart {g' : Nat} {t' : TypeId} {cs' : Array Value} (h : Box w g t cs) (h' : Box w g' t' cs') (hne : t ≠ t') : g ≠ g' := by
  intro e
  subst e
  have := h.symm.trans h'
  injection this with this
  injection this with _ ht
  exact hne ht
theorem own_apart {base : Nat} {e : TypeId} {size n : Nat} {v : Value} {xs : List Value} (h : w.ownsRow base e size v n xs) (hb : Box w g t cs) (hne : e ≠ t) : v.ownBlock ≠ some g := by
  rcases h.2 with ⟨rfl, _⟩ | ⟨k, cap, cur, rfl, _, hk, _⟩
  · simp [Value.ownBlock]
  · intro he
    have : k = g := by simpa [Value.ownBlock] using he
    subst this
    exact Box.apart (t := e) hk hb hne rfl
end

theorem own_own_apart {w : World} {b b' : Nat} {e e' : TypeId} {s s' n n' : Nat} {v v' : Value} {xs xs' : List Value} (h : w.ownsRow b e s v n xs) (h' : w.ownsRow b' e' s' v' n' xs') (hne : e ≠ e') : v.ownBlock = none ∨ v.ownBlock ≠ v'.ownBlock := by
  rcases h.2 with ⟨rfl, _⟩ | ⟨k, _, cur, rfl, _, hk, _⟩
  · exact .inl rfl
  · exact .inr (Ne.symm (own_apart (g := k) (t := e) (cs := cur) h' hk (Ne.symm hne)))
theorem map_own (A : Option Addr) (k c : Nat) : (Value.slice A k c).ownBlock = A.map (·.block) := by cases A <;> rfl

/-! ### what may have turned -/
section
variable {a b c w w' : World} {r s : Option Nat}
theorem grown_refl (w : World) (r : Option Nat) : w.grownBy w r := ⟨rfl, rfl, rfl, Nat.le_refl _, fun _ _ _ => rfl⟩
theorem grown_join (h : a.grownBy b r) (k : b.grownBy c s) (hs : s = r ∨ ∀ x, s = some x → a.heap.size ≤ x) : a.grownBy c r :=
  ⟨k.os.trans h.os, k.tape.trans h.tape, k.output.trans h.output, Nat.le_trans h.size k.size, fun x hx hne =>
    (k.block x (Nat.lt_of_lt_of_le hx h.size) (fun e => by
      rcases hs with hs | hs
      · exact hne (e.trans hs)
      · have := hs x e.symm; omega)).trans (h.block x hx hne)⟩
theorem grown_more (h : a.grownBy b none) (r : Option Nat) : a.grownBy b r := ⟨h.os, h.tape, h.output, h.size, fun x hx _ => h.block x hx (by simp)⟩
theorem grown_drewN (h : a.grownBy b r) (n : Nat) : a.grownBy (b.drewN n) r := ⟨h.os, h.tape, h.output, h.size, h.block⟩
theorem grown_drew (h : a.grownBy b r) : a.grownBy b.drew r := ⟨h.os, h.tape, h.output, h.size, h.block⟩
theorem grown_alloc (h : a.grownBy b r) (o : Obj) : a.grownBy (b.alloc o) r := grown_join h (World.grownBy_alloc b o none) (.inr (by simp))
theorem grown_store (h : a.grownBy b r) {p : Addr} (hp : some p.block = r ∨ a.heap.size ≤ p.block) (u : Value) : a.grownBy (b.setCell p u) r := by
  refine ⟨h.os, h.tape, h.output, by simpa [World.setCell] using h.size, fun x hx hne => (Below.heap_setCell b p u x ?_).trans (h.block x hx hne)⟩
  intro e
  subst e
  rcases hp with hp | hp
  · exact hne hp
  · omega
theorem grown_put (h : a.grownBy b r) {q j : Nat} (hq : some q = r ∨ a.heap.size ≤ q) (u : Value) : a.grownBy (b.setCell ⟨q, j, none⟩ u) r := grown_store (p := ⟨q, j, none⟩) h hq u
theorem below_of_grown (h : a.grownBy b none) : Below a.heap.size a b := ⟨h.os, h.tape, h.output, h.size, fun x hx => h.block x hx (by simp)⟩
theorem grown_of_below (h : Below a.heap.size a b) : a.grownBy b none := ⟨h.os, h.tape, h.output, h.size, fun x hx _ => h.block x hx⟩
theorem below_of_grown_row {B : Nat} (h : a.grownBy b r) (hB : B ≤ a.heap.size) (hr : ∀ x, r = some x → B ≤ x) : Below B a b :=
  ⟨h.os, h.tape, h.output, h.size, fun x hx => h.block x (by omega) (fun e => by have := hr x e.symm; omega)⟩
theorem own_lower {base base' : Nat} {e : TypeId} {size n : Nat} {v : Value} {xs : List Value} (h : w.ownsRow base e size v n xs) (hb : base' ≤ base) : w.ownsRow base' e size v n xs := by
  refine ⟨h.1, ?_⟩
  rcases h.2 with hn | ⟨k, cap, cur, hv, hk, rest⟩
  · exact .inl hn
  · exact .inr ⟨k, cap, cur, hv, by omega, rest⟩
theorem own_form {base : Nat} {e : TypeId} {size n m c : Nat} {A : Option Addr} {xs : List Value} (h : w.ownsRow base e size (.slice A m c) n xs) (h0 : 0 < n) :
    ∃ k, A = some ⟨k, 0, none⟩ ∧ base ≤ k ∧ k < w.heap.size ∧ m = n ∧ n ≤ c := by
  rcases h.2 with ⟨_, hn⟩ | ⟨k, cap, cur, hv, hb, hk, hc, _⟩
  · omega
  · injection hv with e1 e2 e3
    exact ⟨k, e1, hb, (Array.getElem?_eq_some_iff.1 hk).1, e2, by omega⟩
end

/-! ### slices that are only read -/
/-- the slice at A holds the cells f 0 .. f (n - 1), below block B. -/
def Sees (w : World) (B : Nat) (A : Option Addr) (n : Nat) (f : Nat → Value) : Prop :=
  0 < n → ∃ b off, A = some ⟨b, off, none⟩ ∧ b < B ∧ ∀ k, k < n → w.cell? ⟨b, off + k, none⟩ = some (f k)
section
variable {w w' : World} {B B' n : Nat} {A : Option Addr} {f : Nat → Value}
theorem Sees.at_ (h : Sees w B A n f) {k : Nat} (hk : k < n) : ∃ b off, A = some ⟨b, off, none⟩ ∧ b < B ∧ w.cell? ⟨b, off + k, none⟩ = some (f k) := by
  obtain ⟨b, off, e, hb, hc⟩ := h (by omega)
  exact ⟨b, off, e, hb, hc k hk⟩
theorem Sees.keep (h : Sees w B A n f) (hk : ∀ p : Addr, p.block < B → w'.cell? p = w.cell? p) : Sees w' B A n f := fun h0 => by
  obtain ⟨b, off, e, hb, hc⟩ := h h0
  exact ⟨b, off, e, hb, fun k hk' => (hk _ hb).trans (hc k hk')⟩
theorem Sees.more (h : Sees w B A n f) (hB : B ≤ B') : Sees w B' A n f := fun h0 => by
  obtain ⟨b, off, e, hb, hc⟩ := h h0
  exact ⟨b, off, e, by omega, hc⟩
theorem Sees.below (h : Sees w B A n f) (hb : Below B w w') : Sees w' B A n f := h.keep fun _ hp => hb.cell hp
theorem Sees.grown {r : Option Nat} (h : Sees w B A n f) (hg : w.grownBy w' r) (hB : B ≤ w.heap.size) (hr : ∀ x, r = some x → B ≤ x) : Sees w' B A n f :=
  h.below (below_of_grown_row hg hB hr)
theorem Sees.drewN (h : Sees w B A n f) (m : Nat) : Sees (w.drewN m) B A n f := h
theorem Sees.of_own {base : Nat} {e : TypeId} {c : Nat} {xs : List Value} {d : Value} (h : w.ownsRow base e 1 (.slice A n c) n xs) : Sees w w.heap.size A n (fun k => xs.getD k d) := fun h0 => by
  obtain ⟨k, rfl, _, hlt, _⟩ := own_form h h0
  refine ⟨k, 0, rfl, hlt, fun j hj => ?_⟩
  rw [Nat.zero_add, h.cellAt j (by omega)]
  have : j < xs.length := by rw [h.1]; omega
  simp [List.getD, this]
end

theorem own_grow {w w' : World} {base : Nat} {e : TypeId} {size n : Nat} {v : Value} {xs : List Value} (h : w.ownsRow base e size v n xs) (hg : w.grownBy w' none) : w'.ownsRow base e size v n xs := h.kept hg (by cases v.ownBlock <;> simp)
def Here (w : World) : Prop := w.os = w.os
theorem here (w : World) : Here w := rfl
end Go.Proofs.Ytkpfhjjojchdlaa
