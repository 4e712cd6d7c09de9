/-
  Layer 5: what the walks ask of the program's label, one proposition a function; the law package's knows.
-/
import Derived.Test.YtfemfkiamipipaaRead5
import Derived.Lib.ItoaNum
import Derived.Lib.LaidTab
namespace Go.Proofs.Ytfemfkiamipipaa
open Go.ChangeShapes Go.WideShapes Go.ChangeAt Go.RowKit
set_option linter.unusedVariables false

/-! ### the library's variables -/
/-- the table of powers and the two errors lie as the library lays them. -/
def Vars (w : World) : Prop := Lib.TabIs Try.prog w "internal/strconv.uint64pow10" .u64 Lib.pow10Tab ∧ (∃ tp p, w.var? Try.prog "strconv.ErrSyntax" = some #[.iface tp p]) ∧ ∃ tp p, w.var? Try.prog "strconv.ErrRange" = some #[.iface tp p]
theorem var_grow {P : Program} {w w' : World} {n : String} {cs : Array Value} (h : w.var? P n = some cs) (hg : w.grownBy w' none) : w'.var? P n = some cs := by
  unfold World.var? at *
  cases hn : P.globalNamed n with
  | none => rw [hn] at h; cases h
  | some g =>
    rw [hn] at h
    simp only [Option.bind_some] at h ⊢
    have hlt : g < w.heap.size := by
      by_cases hl : g < w.heap.size
      · exact hl
      · rw [Array.getElem?_eq_none (by omega)] at h; cases h
    rw [hg.block g hlt (by simp)]
    exact h
theorem Vars.grow {w w' : World} (h : Vars w) (hg : w.grownBy w' none) : Vars w' := by
  obtain ⟨h1, ⟨a, b, h2⟩, c, d, h3⟩ := h
  exact ⟨var_grow h1 hg, ⟨a, b, var_grow h2 hg⟩, c, d, var_grow h3 hg⟩

/-! ### what is asked of the label -/
/-- a label as it comes. -/
def okL (a : Lab) : Prop := 0 ≤ a.k ∧ a.k < 256 ∧ -9223372036854775808 ≤ a.n ∧ a.n < 9223372036854775808 ∧ a.s.size ≤ 1048576
def IntSays : Prop := ∀ (n : Int) (w : World), -9223372036854775808 ≤ n → n < 9223372036854775808 → Calls Try.prog 25 #[.int .i64 n] w (ToldG (labO ⟨0, n, noS⟩) w)
def TextSays : Prop := ∀ (s : ByteArray) (w : World), s.size ≤ 1048576 → Calls Try.prog 42 #[.string s] w (ToldG (labO ⟨1, 0, s⟩) w)
def RightSays : Prop := ∀ (a : Lab) (w : World), okL a → Calls Try.prog 28 #[labO a] w (ToldG (.bool (rightE a)) w)
/-! ### the label's own equality -/
set_option maxRecDepth 100000 in
theorem eql_lab (x y : Lab) (w : World) : (binOp .eql 38 (.agg #[.int .u8 x.k, .int .i64 x.n, .string x.s]) (.agg #[.int .u8 y.k, .int .i64 y.n, .string y.s])).run Try.prog w = .ok (.bool (eqlL x y)) w := by
  have hu := Try.underlying38
  have hf := fieldsOf_eq Try.prog 38
  rw [hu] at hf
  rw [run_eql_struct, run_equalIn_agg w 9999 _ _ _ (by kernel_rfl) (by kernel_rfl), hf]
  have q0 := fun w => run_equalIn_int (P := Try.prog) w 9998 5 .u8 .u8 x.k y.k Try.underlying5
  have q1 := fun w => run_equalIn_int (P := Try.prog) w 9998 2 .i64 .i64 x.n y.n Try.underlying2
  have q2 := fun w => run_equalIn_string (P := Try.prog) w 9998 9 x.s y.s Try.underlying9
  unfold eqlL
  obtain ⟨a, b, s⟩ := x
  obtain ⟨c, d, t⟩ := y
  have hs : (s.toList == t.toList) = decide (s = t) := by
    by_cases e : s = t
    · subst e; simp
    · simp [e]; exact fun h => e (toList_inj h)
  simp only [hs] at q2
  simp [Op.eqFields, go_sem, q0, q1, q2]
  by_cases h1 : a = c <;> by_cases h2 : b = d <;> by_cases h3 : s = t <;> simp [h1, h2, h3]
set_option maxRecDepth 100000 in
theorem neq_lab (x y : Lab) (w : World) : (binOp .neq 38 (.agg #[.int .u8 x.k, .int .i64 x.n, .string x.s]) (.agg #[.int .u8 y.k, .int .i64 y.n, .string y.s])).run Try.prog w = .ok (.bool (!eqlL x y)) w := by
  have h := eql_lab x y w
  rw [run_eql_struct] at h
  rw [run_neq_struct]
  cases hr : (Op.equalIn 10000 38 (.agg #[.int .u8 x.k, .int .i64 x.n, .string x.s]) (.agg #[.int .u8 y.k, .int .i64 y.n, .string y.s])).run Try.prog w with
  | ok b w' =>
    rw [hr] at h
    simp [Result.andThen] at h ⊢
    exact ⟨by rw [h.1], h.2⟩
  | halt x w' => rw [hr] at h; simp [Result.andThen] at h

/-! ### what knows asks -/
def knA : List UInt8 := [97]
def knL : List Lab := [⟨0, 3, noS⟩, ⟨1, 0, ⟨#[97]⟩⟩]
def knS : List UInt8 := [40, 51, 44, 39, 97, 39, 41]
theorem kn_plain : ∀ x ∈ knL, plainL x := by
  intro x hx
  simp [knL] at hx
  rcases hx with rfl | rfl
  · exact .inl ⟨rfl, rfl, by decide, by decide⟩
  · exact .inr ⟨rfl, rfl, by decide⟩
theorem kn_parts : partsE ⟨2, 2, txt (encL knL)⟩ = some knL := tup_right (l := knL) (by simp [knL]) (by simp [knL]) kn_plain
theorem kn_tup : tupE knL = some ⟨2, 2, txt (encL knL)⟩ := tup_yes (l := knL) (by simp [knL]) (fun x hx => plain_simp (kn_plain _ (by rw [List.getD_eq_getElem?_getD, List.getElem?_eq_getElem hx]; exact List.getElem_mem hx)))
theorem kn_right : rightE ⟨2, 2, txt (encL knL)⟩ = true := by unfold rightE; rw [kn_parts]; rfl
theorem kn_show : showE ⟨2, 2, txt (encL knL)⟩ = knS := by
  have hd : partsD ⟨2, 2, txt (encL knL)⟩ = knL := by unfold partsD; rw [kn_parts]; rfl
  unfold showE
  rw [kn_right, if_neg (by simp), if_pos rfl, hd]
  have h3 : decL 3 = [51] := decL_small (by omega)
  simp [knL, joinL, showP, intL, h3, escL, escB, knS]
theorem kn_read : readE knS = some ⟨2, 2, txt (encL knL)⟩ := by
  rw [← kn_show]
  exact read_show kn_right (by simp) (by simp)
theorem kn_cmp : cmpE ⟨0, 9, noS⟩ ⟨1, 0, noS⟩ = -1 := by
  have h1 : rightE ⟨0, 9, noS⟩ = true := by unfold rightE; rw [parts_self (.inl ⟨rfl, rfl⟩)]; rfl
  have h2 : rightE ⟨1, 0, noS⟩ = true := by unfold rightE; rw [parts_self (.inr ⟨rfl, rfl, by decide⟩)]; rfl
  unfold cmpE
  rw [h1, h2]
  rw [if_neg (by simp), if_neg (by simp), if_pos (by simp)]
  exact simC_less ((ahead_iff _ _).2 (.inl (by decide)))
end Go.Proofs.Ytfemfkiamipipaa
