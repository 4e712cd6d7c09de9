/-
  LABELS IN MEMORY: slices of labels, read and of the call's own; whether two labels are the same.
-/
import Derived.Test.YtfemfkiamipipaaParse
import Derived.Test.YtfemfkiamipipaaMem
import Derived.WalkSpells
import Derived.Laws.StructEq
import Derived.Maps.AppendAt
import Derived.BigQuiet
import Derived.Deep.QuietTactic
namespace Go.Proofs.Ytfemfkiamipipaa
open Go.ChangeShapes Go.WideShapes Go.ChangeAt Go.RowKit
set_option linter.unusedVariables false

def noLab : Lab := ⟨0, 0, noS⟩
/-- a label as a value, its cells. -/
def labO (x : Lab) : Value := .agg #[.int .u8 x.k, .int .i64 x.n, .string x.s]
def labC (x : Lab) : List Value := [.int .u8 x.k, .int .i64 x.n, .string x.s]
/-- the slice at A holds these labels, below block B. -/
def Labs (w : World) (B : Nat) (A : Option Addr) (n : Nat) (l : List Lab) : Prop :=
  l.length = n ∧ (0 < n → ∃ b off, A = some ⟨b, off, none⟩ ∧ b < B ∧ ∀ k, k < n → w.cell? ⟨b, off + k * 3, none⟩ = some (.int .u8 (l.getD k noLab).k) ∧ w.cell? ⟨b, off + k * 3 + 1, none⟩ = some (.int .i64 (l.getD k noLab).n) ∧ w.cell? ⟨b, off + k * 3 + 2, none⟩ = some (.string (l.getD k noLab).s))
section
variable {w w' : World} {B B' n : Nat} {A : Option Addr} {l : List Lab}
theorem Labs.keep (h : Labs w B A n l) (hk : ∀ p : Addr, p.block < B → w'.cell? p = w.cell? p) : Labs w' B A n l :=
  ⟨h.1, fun h0 => by
    obtain ⟨b, off, e, hb, hc⟩ := h.2 h0
    exact ⟨b, off, e, hb, fun k hk' => ⟨(hk _ hb).trans (hc k hk').1, (hk _ hb).trans (hc k hk').2.1, (hk _ hb).trans (hc k hk').2.2⟩⟩⟩
theorem Labs.below (h : Labs w B A n l) (hb : Below B w w') : Labs w' B A n l := h.keep fun _ hp => hb.cell hp
theorem Labs.more (h : Labs w B A n l) (hB : B ≤ B') : Labs w B' A n l :=
  ⟨h.1, fun h0 => by
    obtain ⟨b, off, e, hb, hc⟩ := h.2 h0
    exact ⟨b, off, e, by omega, hc⟩⟩
theorem Labs.drewN (h : Labs w B A n l) (m : Nat) : Labs (w.drewN m) B A n l := h
theorem Labs.grow (h : Labs w w.heap.size A n l) (hg : w.grownBy w' none) : Labs w' w'.heap.size A n l := (h.below (below_of_grown hg)).more hg.size
theorem Labs.at_ (h : Labs w B A n l) {k : Nat} (hk : k < n) : ∃ b off, A = some ⟨b, off, none⟩ ∧ b < B ∧ w.cell? ⟨b, off + k * 3, none⟩ = some (.int .u8 (l.getD k noLab).k) ∧ w.cell? ⟨b, off + k * 3 + 1, none⟩ = some (.int .i64 (l.getD k noLab).n) ∧ w.cell? ⟨b, off + k * 3 + 2, none⟩ = some (.string (l.getD k noLab).s) := by
  obtain ⟨b, off, e, hb, hc⟩ := h.2 (by omega)
  exact ⟨b, off, e, hb, hc k hk⟩
theorem Labs.nil (w : World) (B : Nat) : Labs w B none 0 [] := ⟨rfl, fun h => absurd h (by omega)⟩
end
def labV (l : List Lab) : List Value := l.flatMap labC
theorem labV_length (l : List Lab) : (labV l).length = l.length * 3 := by
  unfold labV
  induction l with
  | nil => rfl
  | cons c l ih => rw [List.flatMap_cons, List.length_append, ih]; simp [labC]; omega
theorem labV_get : ∀ (l : List Lab) (k : Nat), k < l.length → (labV l)[k * 3]? = some (.int .u8 (l.getD k noLab).k) ∧ (labV l)[k * 3 + 1]? = some (.int .i64 (l.getD k noLab).n) ∧ (labV l)[k * 3 + 2]? = some (.string (l.getD k noLab).s)
  | [], k, h => absurd h (by simp)
  | c :: l, 0, h => ⟨rfl, rfl, rfl⟩
  | c :: l, k + 1, h => by
    have ih := labV_get l k (by simpa using h)
    have e1 : (k + 1) * 3 = k * 3 + 1 + 1 + 1 := by omega
    rw [e1]
    exact ih
theorem labV_snoc (l : List Lab) (c : Lab) : labV (l ++ [c]) = labV l ++ labC c := by simp [labV]
theorem labV_take (l : List Lab) (x : Nat) (h : x < l.length) : labV (l.take (x + 1)) = labV (l.take x) ++ [.int .u8 (l.getD x noLab).k, .int .i64 (l.getD x noLab).n, .string (l.getD x noLab).s] := by
  rw [List.take_succ_eq_append_getElem h, labV_snoc]
  simp [List.getD, h, labC]
/-- the row of labels at A is the call's own, from block base on. -/
def OwnL (w : World) (base : Nat) (e : TypeId) (A : Option Addr) (n c : Nat) (l : List Lab) : Prop := l.length = n ∧ w.ownsRow base e 3 (.slice A n c) n (labV l)
section
variable {w w' : World} {B base n c : Nat} {e : TypeId} {A : Option Addr} {l : List Lab}
theorem OwnL.labs (h : OwnL w base e A n c l) : Labs w w.heap.size A n l := by
  refine ⟨h.1, fun h0 => ?_⟩
  obtain ⟨r, rfl, _, hl, _, _⟩ := own_form h.2 h0
  refine ⟨r, 0, rfl, hl, fun k hk => ?_⟩
  have hg := labV_get l k (by rw [h.1]; exact hk)
  rw [Nat.zero_add, h.2.cellAt (k * 3) (by omega), h.2.cellAt (k * 3 + 1) (by omega), h.2.cellAt (k * 3 + 2) (by omega)]
  exact hg
theorem OwnL.grow (h : OwnL w base e A n c l) (hg : w.grownBy w' none) : OwnL w' base e A n c l := ⟨h.1, own_grow h.2 hg⟩
theorem OwnL.lower (h : OwnL w base e A n c l) (hb : B ≤ base) : OwnL w B e A n c l := ⟨h.1, own_lower h.2 hb⟩
theorem OwnL.nil (w : World) (base : Nat) (e : TypeId) : OwnL w base e none 0 0 [] := ⟨rfl, World.ownsRow_nil _ _ _ _⟩
theorem own_slice3 {size : Nat} {v : Value} {xs : List Value} (h : w.ownsRow base e size v n xs) : ∃ A c, v = .slice A n c := by
  rcases h.2 with ⟨rfl, rfl⟩ | ⟨k, cap, cur, rfl, _⟩
  · exact ⟨_, _, rfl⟩
  · exact ⟨_, _, rfl⟩
end
/-- labels that were told, in a new row of type e. -/
def GaveLabs (e : TypeId) (l : List Lab) (w : World) (en : Ending) (w' : World) : Prop := ∃ A c, en = .returned (.slice A l.length c) ∧ OwnL w' w.heap.size e A l.length c l ∧ w.grownBy w' none
theorem new_cells3 (w : World) (u v x : Value) (t : TypeId) : ∀ j y, [u, v, x][j]? = some y → (w.alloc (.cells #[u, v, x] t)).cell? ((⟨w.heap.size, 0, none⟩ : Addr).add j) = some y := by
  intro j y hx
  match j, hx with
  | 0, hx => rw [Addr.add_lit, cell_of_row _ _ _ _ _ _ (heap_alloc_new w _)]; exact hx
  | 1, hx => rw [Addr.add_lit, cell_of_row _ _ _ _ _ _ (heap_alloc_new w _)]; exact hx
  | 2, hx => rw [Addr.add_lit, cell_of_row _ _ _ _ _ _ (heap_alloc_new w _)]; exact hx
theorem three_one (a : Int) (b : Int) (s : ByteArray) : ∀ u ∈ [Value.int .u8 a, .int .i64 b, .string s], u.oneCell' = true := by
  intro u hu
  simp at hu
  rcases hu with rfl | rfl | rfl <;> rfl
theorem info_rlab : (Try.prog.info? 39).map (fun i => (i.zero, i.size, i.bytes)) = some (some (.agg #[.int .u8 0, .int .i64 0, .string noS]), 3, 32) := by kernel_rfl
theorem info_lab : (Try.prog.info? 38).map (fun i => (i.zero, i.size, i.bytes)) = some (some (.agg #[.int .u8 0, .int .i64 0, .string noS]), 3, 32) := by kernel_rfl

/-! ### the same label? -/
theorem fieldsOf_eq (P : Program) (t : TypeId) : P.fieldsOf t = (match P.underlying t with | some (.struct fs) => fs | _ => #[]) := rfl
def eqlL (x y : Lab) : Bool := decide (x = y)
set_option maxRecDepth 100000 in
theorem eql_rlab (x y : Lab) (w : World) : (binOp .eql 39 (.agg #[.int .u8 x.k, .int .i64 x.n, .string x.s]) (.agg #[.int .u8 y.k, .int .i64 y.n, .string y.s])).run Try.prog w = .ok (.bool (eqlL x y)) w := by
  have hu := Try.underlying39
  have hf := fieldsOf_eq Try.prog 39
  rw [hu] at hf
  rw [run_eql_struct, run_equalIn_agg w 9999 _ _ _ (by kernel_rfl) (by kernel_rfl), hf]
  have q0 := fun w => run_equalIn_int (P := Try.prog) w 9998 5 .u8 .u8 x.k y.k Try.underlying5
  have q1 := fun w => run_equalIn_int (P := Try.prog) w 9998 2 .i64 .i64 x.n y.n Try.underlying2
  have q2 := fun w => run_equalIn_string (P := Try.prog) w 9998 9 x.s y.s Try.underlying9
  unfold eqlL
  obtain ⟨a, b, s⟩ := x
  obtain ⟨c, d, t⟩ := y
  have hs : (s.toList == t.toList) = decide (s = t) := by
    by_cases e : s = t
    · subst e; simp
    · simp [e]; exact fun h => e (toList_inj h)
  simp only [hs] at q2
  simp [Op.eqFields, go_sem, q0, q1, q2]
  by_cases h1 : a = c <;> by_cases h2 : b = d <;> by_cases h3 : s = t <;> simp [h1, h2, h3]
set_option maxRecDepth 100000 in
theorem neq_rlab (x y : Lab) (w : World) : (binOp .neq 39 (.agg #[.int .u8 x.k, .int .i64 x.n, .string x.s]) (.agg #[.int .u8 y.k, .int .i64 y.n, .string y.s])).run Try.prog w = .ok (.bool (!eqlL x y)) w := by
  have h := eql_rlab x y w
  rw [run_eql_struct] at h
  rw [run_neq_struct]
  cases hr : (Op.equalIn 10000 39 (.agg #[.int .u8 x.k, .int .i64 x.n, .string x.s]) (.agg #[.int .u8 y.k, .int .i64 y.n, .string y.s])).run Try.prog w with
  | ok b w' =>
    rw [hr] at h
    simp [Result.andThen] at h ⊢
    exact ⟨by rw [h.1], h.2⟩
  | halt x w' => rw [hr] at h; simp [Result.andThen] at h
end Go.Proofs.Ytfemfkiamipipaa
