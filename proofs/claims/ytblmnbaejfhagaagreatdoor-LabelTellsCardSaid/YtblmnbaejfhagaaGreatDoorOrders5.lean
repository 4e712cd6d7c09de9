/-
  Layer 5: the walk of LabelOrders.
-/
import Derived.Test.YtblmnbaejfhagaaGreatDoorBack5
namespace Go.Proofs.YtblmnbaejfhagaaGreatDoor
open Go.ChangeShapes Go.WideShapes Go.ChangeAt Go.RowKit
set_option linter.unusedVariables false

def labA (a : Lab) : Array Value := #[.int .u8 a.k, .int .i64 a.n, .string a.s]
/-- three boxes of labels, made since w0. -/
def Three (w0 : World) (e : TypeId) (a b c : Lab) (v7 v8 v9 : Value) (wc : World) : Prop := ∃ i j k, v7 = .pointer (some ⟨i, 0, none⟩) ∧ v8 = .pointer (some ⟨j, 0, none⟩) ∧ v9 = .pointer (some ⟨k, 0, none⟩) ∧ Box wc i e (labA a) ∧ Box wc j e (labA b) ∧ Box wc k e (labA c) ∧ w0.grownBy wc none
theorem own_three {w : World} {e : TypeId} {a b c : Lab} : OwnL (w.alloc (.cells #[.int .u8 a.k, .int .i64 a.n, .string a.s, .int .u8 b.k, .int .i64 b.n, .string b.s, .int .u8 c.k, .int .i64 c.n, .string c.s] e)) w.heap.size e (some ⟨w.heap.size, 0, none⟩) 3 3 [a, b, c] :=
  ⟨rfl, World.ownsRow_lit w #[.int .u8 a.k, .int .i64 a.n, .string a.s, .int .u8 b.k, .int .i64 b.n, .string b.s, .int .u8 c.k, .int .i64 c.n, .string c.s] _ (Nat.le_refl _) (by unfold maxLen; omega) rfl⟩
theorem heap3 (W : World) (o0 o1 o2 : Obj) : ∃ w', w' = (((W.alloc o0).alloc o1).alloc o2).drew ∧ w'.heap[W.heap.size]? = some o0 ∧ w'.heap[W.heap.size + 1]? = some o1 ∧ w'.heap[W.heap.size + 1 + 1]? = some o2 ∧ W.grownBy w' none := by
  have h0 : (W.alloc o0).heap[W.heap.size]? = some o0 := heap_alloc_new W o0
  have h1 := heap_alloc_new (W.alloc o0) o1
  have h2 := heap_alloc_new ((W.alloc o0).alloc o1) o2
  rw [show (W.alloc o0).heap.size = W.heap.size + 1 by simp] at h1
  rw [show ((W.alloc o0).alloc o1).heap.size = W.heap.size + 1 + 1 by simp] at h2
  refine ⟨_, rfl, ?_, ?_, h2, grown_drewN (grown_alloc (grown_alloc (World.grownBy_alloc W o0 none) _) _) 1⟩
  · exact (Below.heap_alloc _ o2 _ (by simp; omega)).trans ((Below.heap_alloc _ o1 _ (by simp)).trans h0)
  · exact (Below.heap_alloc _ o2 _ (by simp)).trans h1
theorem three_mk {w0 w' : World} {e : TypeId} {a b c : Lab} {i j k : Nat} (hg : w0.grownBy w' none) (h1 : w'.heap[i]? = some (.cells #[.int .u8 a.k, .int .i64 a.n, .string a.s] e (0, 0))) (h2 : w'.heap[j]? = some (.cells #[.int .u8 b.k, .int .i64 b.n, .string b.s] e (0, 0))) (h3 : w'.heap[k]? = some (.cells #[.int .u8 c.k, .int .i64 c.n, .string c.s] e (0, 0))) : Three w0 e a b c (.pointer (some ⟨i, 0, none⟩)) (.pointer (some ⟨j, 0, none⟩)) (.pointer (some ⟨k, 0, none⟩)) w' := ⟨i, j, k, rfl, rfl, rfl, h1, h2, h3, hg⟩
theorem nine_box {w : World} {e e2 e3 : TypeId} {i j k : Nat} {a b c : Lab} (h1 : Box w i e (labA a)) (h2 : Box w j e2 (labA b)) (h3 : Box w k e3 (labA c)) :
    w.cell? ⟨i, 0, none⟩ = some (.int .u8 a.k) ∧ w.cell? ⟨i, 1, none⟩ = some (.int .i64 a.n) ∧ w.cell? ⟨i, 2, none⟩ = some (.string a.s) ∧ w.cell? ⟨j, 0, none⟩ = some (.int .u8 b.k) ∧ w.cell? ⟨j, 1, none⟩ = some (.int .i64 b.n) ∧ w.cell? ⟨j, 2, none⟩ = some (.string b.s) ∧ w.cell? ⟨k, 0, none⟩ = some (.int .u8 c.k) ∧ w.cell? ⟨k, 1, none⟩ = some (.int .i64 c.n) ∧ w.cell? ⟨k, 2, none⟩ = some (.string c.s) :=
  ⟨(cells3 h1).1, (cells3 h1).2.1, (cells3 h1).2.2, (cells3 h2).1, (cells3 h2).2.1, (cells3 h2).2.2, (cells3 h3).1, (cells3 h3).2.1, (cells3 h3).2.2⟩
/-- nine cells in three blocks. -/
theorem nine_al {w1 : World} {p1 p2 p3 p4 p5 p6 p7 p8 p9 : Addr} {v1 v2 v3 v4 v5 v6 v7 v8 v9 : Value} {o : Obj} (h : w1.cell? p1 = some v1 ∧ w1.cell? p2 = some v2 ∧ w1.cell? p3 = some v3 ∧ w1.cell? p4 = some v4 ∧ w1.cell? p5 = some v5 ∧ w1.cell? p6 = some v6 ∧ w1.cell? p7 = some v7 ∧ w1.cell? p8 = some v8 ∧ w1.cell? p9 = some v9) :
    (w1.alloc o).cell? p1 = some v1 ∧ (w1.alloc o).cell? p2 = some v2 ∧ (w1.alloc o).cell? p3 = some v3 ∧ (w1.alloc o).cell? p4 = some v4 ∧ (w1.alloc o).cell? p5 = some v5 ∧ (w1.alloc o).cell? p6 = some v6 ∧ (w1.alloc o).cell? p7 = some v7 ∧ (w1.alloc o).cell? p8 = some v8 ∧ (w1.alloc o).cell? p9 = some v9 :=
  have k : ∀ {p : Addr} {v : Value}, w1.cell? p = some v → (w1.alloc o).cell? p = some v := fun h => (World.cell?_of_block (Below.heap_alloc w1 o _ (World.block_lt_of_cell? w1 _ h))).trans h
  ⟨k h.1, k h.2.1, k h.2.2.1, k h.2.2.2.1, k h.2.2.2.2.1, k h.2.2.2.2.2.1, k h.2.2.2.2.2.2.1, k h.2.2.2.2.2.2.2.1, k h.2.2.2.2.2.2.2.2⟩
theorem nine_st {w1 : World} {b1 b2 b3 o1 o2 o3 o4 o5 o6 o7 o8 o9 : Nat} {v1 v2 v3 v4 v5 v6 v7 v8 v9 u : Value} {q : Addr} (h : w1.cell? ⟨b1, o1, none⟩ = some v1 ∧ w1.cell? ⟨b1, o2, none⟩ = some v2 ∧ w1.cell? ⟨b1, o3, none⟩ = some v3 ∧ w1.cell? ⟨b2, o4, none⟩ = some v4 ∧ w1.cell? ⟨b2, o5, none⟩ = some v5 ∧ w1.cell? ⟨b2, o6, none⟩ = some v6 ∧ w1.cell? ⟨b3, o7, none⟩ = some v7 ∧ w1.cell? ⟨b3, o8, none⟩ = some v8 ∧ w1.cell? ⟨b3, o9, none⟩ = some v9) (hq : q.block ≠ b1 ∧ q.block ≠ b2 ∧ q.block ≠ b3) :
    (w1.setCell q u).cell? ⟨b1, o1, none⟩ = some v1 ∧ (w1.setCell q u).cell? ⟨b1, o2, none⟩ = some v2 ∧ (w1.setCell q u).cell? ⟨b1, o3, none⟩ = some v3 ∧ (w1.setCell q u).cell? ⟨b2, o4, none⟩ = some v4 ∧ (w1.setCell q u).cell? ⟨b2, o5, none⟩ = some v5 ∧ (w1.setCell q u).cell? ⟨b2, o6, none⟩ = some v6 ∧ (w1.setCell q u).cell? ⟨b3, o7, none⟩ = some v7 ∧ (w1.setCell q u).cell? ⟨b3, o8, none⟩ = some v8 ∧ (w1.setCell q u).cell? ⟨b3, o9, none⟩ = some v9 :=
  have k : ∀ {p : Addr} {v : Value}, q.block ≠ p.block → w1.cell? p = some v → (w1.setCell q u).cell? p = some v := fun hne h => by rw [World.cell?_setCell_other _ _ _ _ (fun e => hne (by rw [e]))]; exact h
  ⟨k hq.1 h.1, k hq.1 h.2.1, k hq.1 h.2.2.1, k hq.2.1 h.2.2.2.1, k hq.2.1 h.2.2.2.2.1, k hq.2.1 h.2.2.2.2.2.1, k hq.2.2 h.2.2.2.2.2.2.1, k hq.2.2 h.2.2.2.2.2.2.2.1, k hq.2.2 h.2.2.2.2.2.2.2.2⟩
end Go.Proofs.YtblmnbaejfhagaaGreatDoor
