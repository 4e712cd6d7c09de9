/-
  Layer 8, the program's own: what a change is, as a value; moved, laid. · Layer 8, the program's own: with. · Layer 8, the program's own: without, turned.
-/
import Derived.Test.YtkpfhjjojchdlaaVwb8
import Derived.Test.YtkpfhjjojchdlaaDlt8
import Derived.Deep.RegionLaw
import Derived.Test.YtkpfhjjojchdlaaPrm7

/-! Layer 8, the program's own: what a change is, as a value; moved, laid. -/
section
namespace Go.Proofs.Ytkpfhjjojchdlaa
open Go.ChangeShapes Go.WideShapes Go.ChangeAt Go.RowKit
set_option linter.unusedVariables false
set_option maxRecDepth 100000

def PlainF (f : FuncId) : Prop := ∀ (args : Array Value) (w : World), Sem.run Try.prog (callFunc f args) w = Result.ok (Next.enter f args) w
/-- a view that lies at b, in lists of the call's own from base on, which nothing else holds. -/
structure VIs (w : World) (base b : Nat) (A : Option Addr) (n c : Nat) (A' : Option Addr) (n' c' : Nat) (v : Vw) : Prop where
  box : Box w b 29 #[.slice A n c, .slice A' n' c', .int .i64 v.off]
  sh : OwnI w base A n c v.sh
  st : OwnI w base A' n' c' v.st
  low : base ≤ b
  ne : A.map (·.block) ≠ some b
  ne' : A'.map (·.block) ≠ some b
  apart : A.map (·.block) = none ∨ A.map (·.block) ≠ A'.map (·.block)
def VBox (w : World) (base b : Nat) (v : Vw) : Prop := ∃ A n c A' n' c', VIs w base b A n c A' n' c' v
/-- a change has been made, or could not be made. -/
def Changed (v' : Vw) (ok : Bool) (w : World) (base b : Nat) (e : Ending) (w' : World) : Prop :=
  e = .returned (.bool ok) ∧ (∀ u : World, u.grownBy w none → u.heap.size ≤ base → u.grownBy w' none) ∧ (ok = true → VBox w' base b v')
/-- function f, with what it has caught, makes v' of v in every world grown out of w, if ok; and tells ok. -/
def Does (w : World) (f : FuncId) (cap : Array Value) (v v' : Vw) (ok : Bool) : Prop :=
  ∀ (w1 : World) (base b : Nat), w.grownBy w1 none → w.heap.size ≤ base → VBox w1 base b v → Calls Try.prog f (#[.pointer (some ⟨b, 0, none⟩)] ++ cap) w1 (Changed v' ok w1 base b)
theorem Does.grow {w w' : World} {f : FuncId} {cap : Array Value} {v v' : Vw} {ok : Bool} (h : Does w f cap v v' ok) (hg : w.grownBy w' none) : Does w' f cap v v' ok := fun w1 base b h1 h2 h3 =>
  h w1 base b (grown_join hg h1 (.inr (by simp))) (Nat.le_trans hg.size h2) h3
theorem map_block_some {A : Option Addr} {r g : Nat} (h : A.map (·.block) ≠ some g) (hA : A = some ⟨r, 0, none⟩) : r ≠ g := fun e => h (by rw [hA, e]; rfl)
/-- the three cells of a view's box. -/
theorem box_three_cells {w : World} {b : Nat} {t : TypeId} {x y z : Value} (h : Box w b t #[x, y, z]) : w.cell? ⟨b, 0, none⟩ = some x ∧ w.cell? ⟨b, 1, none⟩ = some y ∧ w.cell? ⟨b, 2, none⟩ = some z ∧ w.frozen? ⟨b, 0, none⟩ = false ∧ w.frozen? ⟨b, 1, none⟩ = false ∧ w.frozen? ⟨b, 2, none⟩ = false :=
  ⟨by rw [h.get]; rfl, by rw [h.get]; rfl, by rw [h.get]; rfl, h.free 0, h.free 1, h.free 2⟩
theorem box_one_cell {w : World} {b : Nat} {t : TypeId} {x : Value} (h : Box w b t #[x]) : w.cell? ⟨b, 0, none⟩ = some x := by rw [h.get]; rfl
/-! ### moved -/
theorem plain_moved : PlainF 75 := fun args w => by kernel_rfl
/-- a function value is told that has caught boxes of the call's own. -/
def GaveMoved (by' : Int) (w : World) (e : Ending) (w' : World) : Prop := ∃ p : Nat, e = .returned (.func (.func 75) #[] #[.pointer (some ⟨p, 0, none⟩)]) ∧ Box w' p 3 #[.int .i64 by'] ∧ w.grownBy w' none
theorem own8_moved (x : Int) (w : World) : Calls Try.prog 52 #[.int .i64 x] w (GaveMoved x w) := by
  go_enter Try.func52, Try.ntmps52
  go_wp2
  go_ret
  exact ⟨w.heap.size, rfl, Box.fresh _ _ _, World.grownBy_alloc _ _ _⟩
theorem does_moved {w : World} {p : Nat} {x : Int} {v : Vw} (h : Box w p 3 #[.int .i64 x]) (hx : I64 (v.off + x)) : Does w 75 #[.pointer (some ⟨p, 0, none⟩)] v ⟨v.sh, v.st, v.off + x⟩ true := by
  rintro w1 base b hg hlow ⟨A, n, c, A', n', c', hv⟩
  obtain ⟨s, t, o⟩ := v
  have hp := h.grown hg (by simp)
  have hpb : p ≠ b := by have := h.small; have := hv.low; omega
  obtain ⟨x0, x1, x2, f0, f1, f2⟩ := box_three_cells hv.box
  have y0 := box_one_cell hp
  have HFIN := Lib.hid (show ∀ m, Changed ⟨s, t, o + x⟩ true w1 base b (.returned (.bool true)) ((w1.drewN m).setCell ⟨b, 2, none⟩ (.int .i64 (o + x))) from fun m => by
    refine ⟨rfl, fun u hu hul => grown_put (grown_drewN hu m) (.inr (by have := hv.low; omega)) _, fun _ => ⟨A, n, c, A', n', c', ?_⟩⟩
    exact ⟨(hv.box.drewN m).put 2 (.int .i64 (o + x)), own_put_other (hv.sh.drewN m) hv.ne _, own_put_other (hv.st.drewN m) hv.ne' _, hv.low, hv.ne, hv.ne', hv.apart⟩)
  unfold I64 at hx
  dsimp only at hx
  have e1 : IntKind.i64.wrap (o + x) = o + x := IntWalk.i64_in _ (by omega)
  have e2 : wrap64 (o + x) = o + x := IntWalk.wrap64_in _ (by omega)
  clear h hp hv hg
  show Calls Try.prog 75 #[.pointer (some ⟨b, 0, none⟩), .pointer (some ⟨p, 0, none⟩)] w1 _
  go_enter Try.func75, Try.ntmps75
  go_wp2_with fail
  go_region_law (fail)
  all_goals
    go_wp2_with fail
    go_ret
    exact HFIN.out _
/-! ### laid -/
theorem plain_laid : PlainF 76 := fun args w => by kernel_rfl
def GaveLaid (i n z : Int) (w : World) (e : Ending) (w' : World) : Prop := ∃ p q r : Nat, e = .returned (.func (.func 76) #[] #[.pointer (some ⟨p, 0, none⟩), .pointer (some ⟨q, 0, none⟩), .pointer (some ⟨r, 0, none⟩)]) ∧ Box w' p 3 #[.int .i64 n] ∧ Box w' q 3 #[.int .i64 z] ∧ Box w' r 3 #[.int .i64 i] ∧ w.grownBy w' none
theorem own8_laid (i n z : Int) (w : World) : Calls Try.prog 53 #[.int .i64 i, .int .i64 n, .int .i64 z] w (GaveLaid i n z w) := by
  go_enter Try.func53, Try.ntmps53
  go_wp2
  go_ret
  refine ⟨w.heap.size + 1, w.heap.size + 1 + 1, w.heap.size, rfl, ?_, ?_, ?_, grown_alloc (grown_alloc (World.grownBy_alloc _ _ _) _) _⟩
  · have h := (Box.fresh (w.alloc (.cells #[.int .i64 i] 3)) 3 #[.int .i64 n]).alloc (.cells #[.int .i64 z] 3)
    simpa using h
  · have h := Box.fresh ((w.alloc (.cells #[.int .i64 i] 3)).alloc (.cells #[.int .i64 n] 3)) 3 #[.int .i64 z]
    simpa using h
  · exact ((Box.fresh _ _ _).alloc _).alloc _
theorem ne_blocks {A A' : Option Addr} {r r' : Nat} (h : A.map (·.block) = none ∨ A.map (·.block) ≠ A'.map (·.block)) (e : A = some ⟨r, 0, none⟩) (e' : A' = some ⟨r', 0, none⟩) : r ≠ r' := by
  subst e; subst e'
  rcases h with h | h
  · cases h
  · exact fun e => h (by rw [e])
theorem does_laid {w : World} {p q r : Nat} {k : Nat} {N Z : Int} {v : Vw} (hp : Box w p 3 #[.int .i64 N]) (hq : Box w q 3 #[.int .i64 Z]) (hr : Box w r 3 #[.int .i64 k]) (hk : k < v.sh.length) (hk' : k < v.st.length) (hl : v.sh.length ≤ 1048576 ∧ v.st.length ≤ 1048576) :
    Does w 76 #[.pointer (some ⟨p, 0, none⟩), .pointer (some ⟨q, 0, none⟩), .pointer (some ⟨r, 0, none⟩)] v ⟨v.sh.set k N, v.st.set k Z, v.off⟩ true := by
  rintro w1 base b hg hlow ⟨A, n, c, A', n', c', hv⟩
  obtain ⟨s, t, o⟩ := v
  dsimp only at hk hk' hl
  have hp1 := hp.grown hg (by simp)
  have hq1 := hq.grown hg (by simp)
  have hr1 := hr.grown hg (by simp)
  have hps : p < base := Nat.lt_of_lt_of_le hp.small hlow
  have hqs : q < base := Nat.lt_of_lt_of_le hq.small hlow
  have hrs : r < base := Nat.lt_of_lt_of_le hr.small hlow
  have hsn : s.length = n := hv.sh.1
  have htn : t.length = n' := hv.st.1
  rw [hsn] at hk hl
  rw [htn] at hk' hl
  obtain ⟨g, hA, hgb, c0, c1⟩ := hv.sh.at_ hk
  obtain ⟨g', hA', hgb', c0', c1'⟩ := hv.st.at_ hk'
  have hgg : g ≠ g' := ne_blocks hv.apart hA hA'
  have hgbb : g ≠ b := map_block_some hv.ne hA
  have hgbb' : g' ≠ b := map_block_some hv.ne' hA'
  subst hA; subst hA'
  have hpg : p ≠ g := by omega
  have hpg' : p ≠ g' := by omega
  have hqg : q ≠ g := by omega
  have hqg' : q ≠ g' := by omega
  have hrg : r ≠ g := by omega
  have hrg' : r ≠ g' := by omega
  obtain ⟨x0, x1, x2, f0, f1, f2⟩ := box_three_cells hv.box
  have y0 := box_one_cell hp1
  have y1 := box_one_cell hq1
  have y2 := box_one_cell hr1
  have HP1 := Lib.hid hp1
  generalize s.getD k 0 = su at *
  generalize t.getD k 0 = tu at *
  have hk1 : (w1.setCell ⟨g, k, none⟩ (.int .i64 N)).cell? ⟨b, 0, none⟩ = some (.slice (some ⟨g, 0, none⟩) n c) ∧ (w1.setCell ⟨g, k, none⟩ (.int .i64 N)).cell? ⟨b, 1, none⟩ = some (.slice (some ⟨g', 0, none⟩) n' c') ∧ (w1.setCell ⟨g, k, none⟩ (.int .i64 N)).cell? ⟨p, 0, none⟩ = some (.int .i64 N) ∧ (w1.setCell ⟨g, k, none⟩ (.int .i64 N)).cell? ⟨q, 0, none⟩ = some (.int .i64 Z) ∧ (w1.setCell ⟨g, k, none⟩ (.int .i64 N)).cell? ⟨r, 0, none⟩ = some (.int .i64 (k : Int)) :=
    ⟨cell_kept7 x0 (fun e => hgbb e.symm) _ _, cell_kept7 x1 (fun e => hgbb e.symm) _ _, cell_kept7 y0 hpg _ _, cell_kept7 y1 hqg _ _, cell_kept7 y2 hrg _ _⟩
  have KEEP2 := Lib.hid (show ((w1.setCell ⟨g, k, none⟩ (.int .i64 N)).setCell ⟨g', k, none⟩ (.int .i64 Z)).cell? ⟨b, 0, none⟩ = some (.slice (some ⟨g, 0, none⟩) n c) ∧ ((w1.setCell ⟨g, k, none⟩ (.int .i64 N)).setCell ⟨g', k, none⟩ (.int .i64 Z)).cell? ⟨b, 1, none⟩ = some (.slice (some ⟨g', 0, none⟩) n' c') ∧ ((w1.setCell ⟨g, k, none⟩ (.int .i64 N)).setCell ⟨g', k, none⟩ (.int .i64 Z)).cell? ⟨p, 0, none⟩ = some (.int .i64 N) ∧ ((w1.setCell ⟨g, k, none⟩ (.int .i64 N)).setCell ⟨g', k, none⟩ (.int .i64 Z)).cell? ⟨q, 0, none⟩ = some (.int .i64 Z) ∧ ((w1.setCell ⟨g, k, none⟩ (.int .i64 N)).setCell ⟨g', k, none⟩ (.int .i64 Z)).cell? ⟨r, 0, none⟩ = some (.int .i64 (k : Int)) from
    ⟨cell_kept7 hk1.1 (fun e => hgbb' e.symm) _ _, cell_kept7 hk1.2.1 (fun e => hgbb' e.symm) _ _, cell_kept7 hk1.2.2.1 hpg' _ _, cell_kept7 hk1.2.2.2.1 hqg' _ _, cell_kept7 hk1.2.2.2.2 hrg' _ _⟩)
  have KEEP := Lib.hid hk1
  have hk2 : (w1.setCell ⟨g, k, none⟩ (.int .i64 N)).cell? ⟨g', k, none⟩ = some (.int .i64 tu) := cell_kept7 c0' (fun e => hgg e.symm) _ _
  clear hk1
  have HFIN := Lib.hid (show ∀ m, Changed ⟨s.set k N, t.set k Z, o⟩ true w1 base b (.returned (.bool true)) (((w1.drewN m).setCell ⟨g, k, none⟩ (.int .i64 N)).setCell ⟨g', k, none⟩ (.int .i64 Z)) from fun m => by
    refine ⟨rfl, fun u hu hul => grown_put (grown_put (grown_drewN hu m) (.inr (by omega)) _) (.inr (by omega)) _, fun _ => ⟨some ⟨g, 0, none⟩, n, c, some ⟨g', 0, none⟩, n', c', ?_⟩⟩
    refine ⟨?_, own_put_other ((hv.sh.drewN m).put k N) (fun e => by injection e with e; exact hgg e) _, ?_, hv.low, hv.ne, hv.ne', hv.apart⟩
    · have h1 := (hv.box.drewN m).grown (row := some g) (grown_put (grown_refl _ (some g)) (.inl rfl) (q := g) (j := k) (.int .i64 N)) (fun e => hgbb (by injection e with e; exact e.symm))
      exact h1.grown (row := some g') (grown_put (grown_refl _ (some g')) (.inl rfl) (q := g') (j := k) (.int .i64 Z)) (fun e => hgbb' (by injection e with e; exact e.symm))
    · exact (own_put_other (hv.st.drewN m) (fun e => by injection e with e; exact hgg e.symm) _).put k Z)
  have d0 : decide ((k : Int) < 0) = false := decide_eq_false (by omega)
  have d1 : decide ((n : Int) ≤ (k : Int)) = false := decide_eq_false (by omega)
  have d2 : decide ((n' : Int) ≤ (k : Int)) = false := decide_eq_false (by omega)
  have d3 : decide (n ≤ k) = false := decide_eq_false (by omega)
  have d4 : decide (n' ≤ k) = false := decide_eq_false (by omega)
  clear hp hq hr hp1 hq1 hr1 hv hg hsn htn f0 f1 f2 x2
  show Calls Try.prog 76 #[.pointer (some ⟨b, 0, none⟩), .pointer (some ⟨p, 0, none⟩), .pointer (some ⟨q, 0, none⟩), .pointer (some ⟨r, 0, none⟩)] w1 _
  go_enter Try.func76, Try.ntmps76
  go_wp2_with fail
  go_region_held3 (fun w' => w'.cell? ⟨b, 0, none⟩ = some (.slice (some ⟨g, 0, none⟩) n c) ∧ w'.cell? ⟨b, 1, none⟩ = some (.slice (some ⟨g', 0, none⟩) n' c') ∧ w'.cell? ⟨p, 0, none⟩ = some (.int .i64 N) ∧ w'.cell? ⟨q, 0, none⟩ = some (.int .i64 Z) ∧ w'.cell? ⟨r, 0, none⟩ = some (.int .i64 (k : Int))) (first | exact KEEP2.out | exact KEEP.out | go_keep) (fail)
  all_goals
    go_wp2_with fail
    go_ret
    exact HFIN.out _
end Go.Proofs.Ytkpfhjjojchdlaa
end

/-! Layer 8, the program's own: with. -/
section
namespace Go.Proofs.Ytkpfhjjojchdlaa
open Go.ChangeShapes Go.WideShapes Go.ChangeAt Go.RowKit
set_option linter.unusedVariables false
set_option maxRecDepth 100000

theorem own_far8 {w w' : World} {B n c : Nat} {A : Option Addr} {zs : List Int} {row : Option Nat} (h : OwnI w B A n c zs) (hg : w.grownBy w' row) (hne : A.map (·.block) = none ∨ A.map (·.block) ≠ row) : OwnI w' B A n c zs :=
  ⟨h.1, h.2.kept hg (by rw [map_own]; exact hne)⟩
theorem own_low8 {w : World} {B n c g : Nat} {A : Option Addr} {zs : List Int} (h : OwnI w B A n c zs) (hg : A.map (·.block) = some g) : B ≤ g ∧ g < w.heap.size := by
  have := h.2.lt g (by rw [map_own]; exact hg)
  exact this
theorem plain_with : PlainF 82 := fun args w => by kernel_rfl
def GaveWith (i n z : Int) (w : World) (e : Ending) (w' : World) : Prop := ∃ p q r : Nat, e = .returned (.func (.func 82) #[] #[.pointer (some ⟨p, 0, none⟩), .pointer (some ⟨q, 0, none⟩), .pointer (some ⟨r, 0, none⟩)]) ∧ Box w' p 3 #[.int .i64 i] ∧ Box w' q 3 #[.int .i64 n] ∧ Box w' r 3 #[.int .i64 z] ∧ w.grownBy w' none
theorem own8_with (i n z : Int) (w : World) : Calls Try.prog 60 #[.int .i64 i, .int .i64 n, .int .i64 z] w (GaveWith i n z w) := by
  go_enter Try.func60, Try.ntmps60
  go_wp2
  go_ret
  refine ⟨w.heap.size, w.heap.size + 1, w.heap.size + 1 + 1, rfl, ?_, ?_, ?_, grown_alloc (grown_alloc (World.grownBy_alloc _ _ _) _) _⟩
  · exact ((Box.fresh _ _ _).alloc _).alloc _
  · have h := (Box.fresh (w.alloc (.cells #[.int .i64 i] 3)) 3 #[.int .i64 n]).alloc (.cells #[.int .i64 z] 3)
    simpa using h
  · have h := Box.fresh ((w.alloc (.cells #[.int .i64 i] 3)).alloc (.cells #[.int .i64 n] 3)) 3 #[.int .i64 z]
    simpa using h
set_option maxHeartbeats 2000000 in
theorem does_with {w : World} {p q r : Nat} {x N Z : Int} {v : Vw} (hp : Box w p 3 #[.int .i64 x]) (hq : Box w q 3 #[.int .i64 N]) (hr : Box w r 3 #[.int .i64 Z]) (hst : v.st.length = v.sh.length) (hl : v.sh.length ≤ 6) :
    Does w 82 #[.pointer (some ⟨p, 0, none⟩), .pointer (some ⟨q, 0, none⟩), .pointer (some ⟨r, 0, none⟩)] v ⟨withL v.sh x N, putL v.st x.toNat Z, v.off⟩ (withB v.sh x N) := by
  rintro w1 base b hg hlow ⟨A, n, c, A', n', c', hv⟩
  obtain ⟨s, t, o⟩ := v
  dsimp only at hst hl
  have hp1 := hp.grown hg (by simp)
  have hq1 := hq.grown hg (by simp)
  have hr1 := hr.grown hg (by simp)
  have hsn : s.length = n := hv.sh.1
  have htn : t.length = n' := hv.st.1
  have HW := Lib.hid (fun w' (hg : w1.grownBy w' none) => own7_with A n c s x N w' (hv.sh.numsF.grow hg) (by omega))
  have HV := Lib.hid hv
  have HP := Lib.hid hp1
  have HQ := Lib.hid hq1
  have HR := Lib.hid hr1
  obtain ⟨x0, x1, x2, f0, f1, f2⟩ := box_three_cells hv.box
  have y0 := box_one_cell hp1
  have y1 := box_one_cell hq1
  have HC := Lib.hid (show ∀ w', w1.grownBy w' none → w'.cell? ⟨b, 0, none⟩ = some (.slice A n c) ∧ w'.cell? ⟨p, 0, none⟩ = some (.int .i64 x) ∧ w'.cell? ⟨q, 0, none⟩ = some (.int .i64 N) from fun w' hg =>
    ⟨(box_three_cells (hv.box.grown hg (by simp))).1, box_one_cell (hp1.grown hg (by simp)), box_one_cell (hq1.grown hg (by simp))⟩)
  have hps : p < base := Nat.lt_of_lt_of_le hp.small hlow
  have hrs : r < base := Nat.lt_of_lt_of_le hr.small hlow
  have HPB := Lib.hid (show p < base ∧ r < base ∧ base ≤ b ∧ b < w1.heap.size from ⟨hps, hrs, hv.low, hv.box.small⟩)
  have HNN := Lib.hid (show n' = n ∧ n ≤ 6 by omega)
  clear hp hq hr hp1 hq1 hr1 hv hg hlow hps hrs f0 f1 f2 x1 x2 hst hl
  show Calls Try.prog 82 #[.pointer (some ⟨b, 0, none⟩), .pointer (some ⟨p, 0, none⟩), .pointer (some ⟨q, 0, none⟩), .pointer (some ⟨r, 0, none⟩)] w1 _
  cases hb : withB s x N with
  | false =>
    rw [hb] at HW
    go_enter Try.func82, Try.ntmps82
    go_wp2_with fail
    go_region_held3 (fun w' => w'.cell? ⟨b, 0, none⟩ = some (.slice A n c) ∧ w'.cell? ⟨p, 0, none⟩ = some (.int .i64 x) ∧ w'.cell? ⟨q, 0, none⟩ = some (.int .i64 N)) (first | exact KEEP.out | go_keep) (first
      | (go_at_call 83; refine (HW.out _ (grown_drewN (grown_refl _ _) _)).mono ?_; rintro e w2 ⟨A2, c2, rfl, ho, hg2⟩; have HG2 := Lib.hid (grown_join (grown_drewN (grown_refl w1 none) _) hg2 (.inr (by simp))); have KEEP := Lib.hid (HC.out _ HG2.out); clear ho hg2))
    all_goals
      go_wp2_with fail
      go_ret
      exact ⟨rfl, fun u hu _ => grown_join hu HG2.out (.inr (by simp)), fun h => by cases h⟩
  | true =>
    rw [hb] at HW
    have HB := Lib.hid hb
    clear hb
    go_enter Try.func82, Try.ntmps82
    go_wp2_with fail
    go_region_held3 (fun w' => w'.cell? ⟨b, 0, none⟩ = some (.slice A n c) ∧ w'.cell? ⟨p, 0, none⟩ = some (.int .i64 x) ∧ w'.cell? ⟨q, 0, none⟩ = some (.int .i64 N)) (first | exact KEEP.out | go_keep) (first
      | (go_at_call 83; refine (HW.out _ (grown_drewN (grown_refl _ _) _)).mono ?_; rintro e w2 ⟨A2, c2, rfl, ho, hg2⟩; have HG2 := Lib.hid (grown_join (grown_drewN (grown_refl w1 none) _) hg2 (.inr (by simp))); have KEEP := Lib.hid (HC.out _ HG2.out); have HO2 : Hid (OwnI w2 w1.heap.size A2 (withL s x N).length c2 (withL s x N)) := Lib.hid ho; clear ho hg2))
    all_goals
      obtain ⟨k, hk, hkn⟩ : ∃ k : Nat, x = (k : Int) ∧ k ≤ n' := by
        have h := HB.out
        unfold withB at h
        simp only [Bool.and_eq_true, decide_eq_true_eq] at h
        have h2 := HNN.out
        exact ⟨x.toNat, by omega, by omega⟩
      subst hk
      generalize hzs : withL s (k : Int) N = zs at *
      generalize hm : zs.length = m at *
      have hX2 := HV.out.box.grown HG2.out (by simp)
      have hP2 := HP.out.grown HG2.out (by simp)
      have hR2 := HR.out.grown HG2.out (by simp)
      obtain ⟨w3, hw3⟩ : ∃ w3, w3 = (w2.alloc (.cells #[.int .i64 Z] 3)).drew := ⟨_, rfl⟩
      have hg23 : w2.grownBy w3 none := by rw [hw3]; exact grown_drew (World.grownBy_alloc _ _ _)
      have hT3 : OwnI w3 base A' n' c' t := (HV.out.st.grow HG2.out).grow hg23
      have hA'lt : ∀ g, A'.map (·.block) = some g → g < w1.heap.size := fun g hg => (own_low8 HV.out.st hg).2
      have hin := own8_insert A' n' c' k base w2.heap.size t Z w3 hT3 (by have h1 := HG2.out.size; have h2 := hg23.size; have h3 := HPB.out; omega) (by rw [hw3]; exact heap_alloc_new w2 _) (fun e => by have h1 := hA'lt _ e; have h2 := HG2.out.size; omega) hkn (by have := HNN.out; omega)
      have HFIN : Hid (∀ e w4, InsP8 base k n' A' t Z w3 e w4 → ∃ A4 c4, e = .returned (.slice A4 (n' + 1) c4) ∧ Box w4 b 29 #[.slice A n c, .slice A' n' c', .int .i64 o] ∧
          Changed ⟨zs, putL t (k : Int).toNat Z, o⟩ true w1 base b (.returned (.bool true)) ((w4.setCell ⟨b, 0, none⟩ (.slice A2 m c2)).setCell ⟨b, 1, none⟩ (.slice A4 (n' + 1) c4))) := Lib.hid (by
        rintro e w4 ⟨A4, c4, rfl, ho4, hg4, hat⟩
        have hx4 : Box w4 b 29 #[.slice A n c, .slice A' n' c', .int .i64 o] := (hX2.grown hg23 (by simp)).grown hg4 (fun e => HV.out.ne' e.symm)
        have hpb := HPB.out
        have hsz1 := HG2.out.size
        have hsz2 := hg23.size
        have ho2 : OwnI w2 w1.heap.size A2 m c2 zs := HO2.out
        have hA2 : ∀ g, A2.map (·.block) = some g → w1.heap.size ≤ g ∧ g < w2.heap.size := fun g hg => own_low8 ho2 hg
        have ho2' : OwnI w4 w1.heap.size A2 m c2 zs := own_far8 (ho2.grow hg23) hg4 (by
          cases hq : A2.map (·.block) with
          | none => exact .inl rfl
          | some g => exact .inr fun e => by have h1 := hA2 g hq; have h2 := hA'lt g e.symm; omega)
        have hA4 : ∀ g, A4.map (·.block) = some g → g < w1.heap.size ∧ A'.map (·.block) = some g ∨ w3.heap.size ≤ g := fun g hg => by
          rcases hat with h | ⟨g', h, h'⟩
          · exact .inl ⟨hA'lt g (by rw [← h]; exact hg), by rw [← h]; exact hg⟩
          · rw [h] at hg; injection hg with hg; subst hg; exact .inr h'
        refine ⟨A4, c4, rfl, hx4, rfl, fun u hu hul => ?_, fun _ => ⟨A2, m, c2, A4, n' + 1, c4, ?_⟩⟩
        · have h1 : u.grownBy w3 none := grown_join (grown_join hu HG2.out (.inr (by simp))) hg23 (.inr (by simp))
          have h2 : u.grownBy w4 none := grown_join h1 hg4 (.inr fun g hg => by have := own_low8 HV.out.st hg; omega)
          exact grown_put (grown_put h2 (.inr (by omega)) _) (.inr (by omega)) _
        · have hne2 : A2.map (·.block) ≠ some b := fun e => by have := hA2 b e; omega
          have hne4 : A4.map (·.block) ≠ some b := fun e => by
            rcases hA4 b e with ⟨_, h⟩ | h
            · exact HV.out.ne' h
            · omega
          refine ⟨(hx4.put 0 _).put 1 _, own_put_other (own_put_other (ho2'.lower (by omega)) hne2 _) hne2 _, own_put_other (own_put_other ho4 hne4 _) hne4 _, hpb.2.2.1, hne2, hne4, ?_⟩
          cases hq : A2.map (·.block) with
          | none => exact .inl rfl
          | some g =>
            refine .inr fun e => ?_
            have h1 := hA2 g hq
            rcases hA4 g e.symm with ⟨h, _⟩ | h
            · omega
            · omega)
      have HIN := Lib.hid hin
      obtain ⟨x0', x1', x2', f0', f1', f2'⟩ := box_three_cells hX2
      have y0' := box_one_cell hP2
      have y2' := box_one_cell hR2
      obtain ⟨u0, u1, u2, v0, v1, v2⟩ := box_three_cells (hX2.grown hg23 (by simp))
      have z0 := box_one_cell (hP2.grown hg23 (by simp))
      have z2 := box_one_cell (hR2.grown hg23 (by simp))
      rw [hw3] at HIN HFIN u0 u1 z0 z2
      clear hin hX2 hP2 hR2 hg23 hT3 hA'lt hw3 KEEP v0 v1 v2 x0 y0 y1 u2 x2'
      go_wp2_with fail
      go_region_law (first
        | (go_simp; go_at_call 84; refine HIN.out.mono ?_; intro e w4 hw4; obtain ⟨A4, c4, rfl, hx4, hfin⟩ := HFIN.out e w4 hw4; have HFI := Lib.hid hfin; obtain ⟨q0, q1, q2, g0, g1, g2⟩ := box_three_cells hx4; clear hw4 hfin hx4))
      all_goals
        go_wp2_with fail
        go_ret
        exact HFI.out
end Go.Proofs.Ytkpfhjjojchdlaa
end

/-! Layer 8, the program's own: without, turned. -/
section
namespace Go.Proofs.Ytkpfhjjojchdlaa
open Go.ChangeShapes Go.WideShapes Go.ChangeAt Go.RowKit
set_option linter.unusedVariables false
set_option maxRecDepth 100000

theorem plain_without : PlainF 79 := fun args w => by kernel_rfl
def GaveWithout (i : Int) (w : World) (e : Ending) (w' : World) : Prop := ∃ p : Nat, e = .returned (.func (.func 79) #[] #[.pointer (some ⟨p, 0, none⟩)]) ∧ Box w' p 3 #[.int .i64 i] ∧ w.grownBy w' none
theorem own8_without (i : Int) (w : World) : Calls Try.prog 58 #[.int .i64 i] w (GaveWithout i w) := by
  go_enter Try.func58, Try.ntmps58
  go_wp2
  go_ret
  exact ⟨w.heap.size, rfl, Box.fresh _ _ _, World.grownBy_alloc _ _ _⟩
set_option maxHeartbeats 2000000 in
theorem does_without {w : World} {p : Nat} {x : Int} {v : Vw} (hp : Box w p 3 #[.int .i64 x]) (hst : v.st.length = v.sh.length) (hl : v.sh.length ≤ 6) :
    Does w 79 #[.pointer (some ⟨p, 0, none⟩)] v ⟨withoutL v.sh x, v.st.take x.toNat ++ v.st.drop (x.toNat + 1), v.off⟩ (withoutB v.sh x) := by
  rintro w1 base b hg hlow ⟨A, n, c, A', n', c', hv⟩
  obtain ⟨s, t, o⟩ := v
  dsimp only at hst hl
  have hp1 := hp.grown hg (by simp)
  have hsn : s.length = n := hv.sh.1
  have htn : t.length = n' := hv.st.1
  have HW := Lib.hid (fun w' (hg : w1.grownBy w' none) => own7_without A n c s x w' (hv.sh.numsF.grow hg) (by omega))
  have HV := Lib.hid hv
  have HP := Lib.hid hp1
  obtain ⟨x0, x1, x2, f0, f1, f2⟩ := box_three_cells hv.box
  have y0 := box_one_cell hp1
  have HC := Lib.hid (show ∀ w', w1.grownBy w' none → w'.cell? ⟨b, 0, none⟩ = some (.slice A n c) ∧ w'.cell? ⟨p, 0, none⟩ = some (.int .i64 x) from fun w' hg =>
    ⟨(box_three_cells (hv.box.grown hg (by simp))).1, box_one_cell (hp1.grown hg (by simp))⟩)
  have HPB := Lib.hid (show base ≤ b ∧ b < w1.heap.size from ⟨hv.low, hv.box.small⟩)
  have HNN := Lib.hid (show n' = n ∧ n ≤ 6 by omega)
  clear hp hp1 hv hg hlow f0 f1 f2 x1 x2 hst hl
  show Calls Try.prog 79 #[.pointer (some ⟨b, 0, none⟩), .pointer (some ⟨p, 0, none⟩)] w1 _
  cases hb : withoutB s x with
  | false =>
    rw [hb] at HW
    go_enter Try.func79, Try.ntmps79
    go_wp2_with fail
    go_region_held3 (fun w' => w'.cell? ⟨b, 0, none⟩ = some (.slice A n c) ∧ w'.cell? ⟨p, 0, none⟩ = some (.int .i64 x)) (first | exact KEEP.out | go_keep) (first
      | (go_at_call 80; refine (HW.out _ (grown_drewN (grown_refl _ _) _)).mono ?_; rintro e w2 ⟨A2, c2, rfl, ho, hg2⟩; have HG2 := Lib.hid (grown_join (grown_drewN (grown_refl w1 none) _) hg2 (.inr (by simp))); have KEEP := Lib.hid (HC.out _ HG2.out); clear ho hg2))
    all_goals
      go_wp2_with fail
      go_ret
      exact ⟨rfl, fun u hu _ => grown_join hu HG2.out (.inr (by simp)), fun h => by cases h⟩
  | true =>
    rw [hb] at HW
    have HB := Lib.hid hb
    clear hb
    go_enter Try.func79, Try.ntmps79
    go_wp2_with fail
    go_region_held3 (fun w' => w'.cell? ⟨b, 0, none⟩ = some (.slice A n c) ∧ w'.cell? ⟨p, 0, none⟩ = some (.int .i64 x)) (first | exact KEEP.out | go_keep) (first
      | (go_at_call 80; refine (HW.out _ (grown_drewN (grown_refl _ _) _)).mono ?_; rintro e w2 ⟨A2, c2, rfl, ho, hg2⟩; have HG2 := Lib.hid (grown_join (grown_drewN (grown_refl w1 none) _) hg2 (.inr (by simp))); have KEEP := Lib.hid (HC.out _ HG2.out); have HO2 : Hid (OwnI w2 w1.heap.size A2 (withoutL s x).length c2 (withoutL s x)) := Lib.hid ho; clear ho hg2))
    all_goals
      obtain ⟨k, hk, hkn⟩ : ∃ k : Nat, x = (k : Int) ∧ k < n' := by
        have h := HB.out
        unfold withoutB at h
        simp only [Bool.and_eq_true, decide_eq_true_eq] at h
        have h2 := HNN.out
        exact ⟨x.toNat, by omega, by omega⟩
      subst hk
      generalize hzs : withoutL s (k : Int) = zs at *
      generalize hm : zs.length = m at *
      have hX2 := HV.out.box.grown HG2.out (by simp)
      have hP2 := HP.out.grown HG2.out (by simp)
      obtain ⟨w3, hw3⟩ : ∃ w3, w3 = w2.drew := ⟨_, rfl⟩
      have hg23 : w2.grownBy w3 none := by rw [hw3]; exact grown_drew (grown_refl _ _)
      have hT3 : OwnI w3 base A' n' c' t := (HV.out.st.grow HG2.out).grow hg23
      have hA'lt : ∀ g, A'.map (·.block) = some g → g < w1.heap.size := fun g hg => (own_low8 HV.out.st hg).2
      obtain ⟨r, hA', hrb, _, _⟩ := HV.out.st.at_ hkn
      subst hA'
      have hrlt := hA'lt r rfl
      have hin := own8_delete r n' c' k base t w3 hT3 hkn (by have := HNN.out; omega)
      have HFIN : Hid (∀ w4, OwnI w4 base (some ⟨r, 0, none⟩) (n' - 1) c' (t.take k ++ t.drop (k + 1)) → w3.grownBy w4 (some r) → Box w4 b 29 #[.slice A n c, .slice (some ⟨r, 0, none⟩) n' c', .int .i64 o] ∧
          Changed ⟨zs, t.take (k : Int).toNat ++ t.drop ((k : Int).toNat + 1), o⟩ true w1 base b (.returned (.bool true)) ((w4.setCell ⟨b, 0, none⟩ (.slice A2 m c2)).setCell ⟨b, 1, none⟩ (.slice (some ⟨r, 0, none⟩) (n' - 1) c'))) := Lib.hid (by
        rintro w4 ho4 hg4
        have hx4 : Box w4 b 29 #[.slice A n c, .slice (some ⟨r, 0, none⟩) n' c', .int .i64 o] := (hX2.grown hg23 (by simp)).grown hg4 (fun e => HV.out.ne' (by rw [e]; rfl))
        have hpb := HPB.out
        have hsz1 := HG2.out.size
        have hsz2 := hg23.size
        have ho2 : OwnI w2 w1.heap.size A2 m c2 zs := HO2.out
        have hA2 : ∀ g, A2.map (·.block) = some g → w1.heap.size ≤ g ∧ g < w2.heap.size := fun g hg => own_low8 ho2 hg
        have ho2' : OwnI w4 w1.heap.size A2 m c2 zs := own_far8 (ho2.grow hg23) hg4 (by
          cases hq : A2.map (·.block) with
          | none => exact .inl rfl
          | some g => exact .inr fun e => by have h1 := hA2 g hq; injection e with e; omega)
        refine ⟨hx4, rfl, fun u hu hul => ?_, fun _ => ⟨A2, m, c2, some ⟨r, 0, none⟩, n' - 1, c', ?_⟩⟩
        · have h1 : u.grownBy w3 none := grown_join (grown_join hu HG2.out (.inr (by simp))) hg23 (.inr (by simp))
          have h2 : u.grownBy w4 none := grown_join h1 hg4 (.inr fun g hg => by injection hg with hg; omega)
          exact grown_put (grown_put h2 (.inr (by omega)) _) (.inr (by omega)) _
        · have hne2 : A2.map (·.block) ≠ some b := fun e => by have := hA2 b e; omega
          refine ⟨(hx4.put 0 _).put 1 _, own_put_other (own_put_other (ho2'.lower (by omega)) hne2 _) hne2 _, own_put_other (own_put_other ho4 HV.out.ne' _) HV.out.ne' _, hpb.1, hne2, HV.out.ne', ?_⟩
          cases hq : A2.map (·.block) with
          | none => exact .inl rfl
          | some g =>
            refine .inr fun e => ?_
            have h1 := hA2 g hq
            injection e with e
            have e' : g = r := e
            omega)
      have HIN := Lib.hid hin
      obtain ⟨x0', x1', x2', f0', f1', f2'⟩ := box_three_cells hX2
      have y0' := box_one_cell hP2
      have hk6 : k ≤ 6 := by have := HNN.out; omega
      have s1 : IntKind.i64.wrap ((k : Int) + 1) = (k : Int) + 1 := IntWalk.i64_in _ (by omega)
      have s2 : wrap64 ((k : Int) + 1) = (k : Int) + 1 := IntWalk.wrap64_in _ (by omega)
      rw [hw3] at HIN HFIN
      clear hin hX2 hP2 hg23 hT3 hA'lt hw3 KEEP x0 y0 x2' hrlt hrb
      go_wp2_with fail
      go_region_law (first
        | (go_simp; go_at_call 81; refine HIN.out.mono ?_; rintro e w4 ⟨rfl, ho4, hg4⟩; obtain ⟨hx4, hfin⟩ := HFIN.out w4 ho4 hg4; have HFI := Lib.hid hfin; obtain ⟨q0, q1, q2, g0, g1, g2⟩ := box_three_cells hx4; clear ho4 hg4 hfin hx4))
      all_goals
        go_wp2_with fail
        go_ret
        exact HFI.out
/-! ### turned -/
theorem plain_turned : PlainF 77 := fun args w => by kernel_rfl
def GaveTurned (B : Option Addr) (m d : Nat) (w : World) (e : Ending) (w' : World) : Prop := ∃ p : Nat, e = .returned (.func (.func 77) #[] #[.pointer (some ⟨p, 0, none⟩)]) ∧ Box w' p 22 #[.slice B m d] ∧ w.grownBy w' none
theorem own8_turned (B : Option Addr) (m d : Nat) (w : World) : Calls Try.prog 56 #[.slice B m d] w (GaveTurned B m d w) := by
  go_enter Try.func56, Try.ntmps56
  go_wp2
  go_ret
  exact ⟨w.heap.size, rfl, Box.fresh _ _ _, World.grownBy_alloc _ _ _⟩
set_option maxHeartbeats 2000000 in
theorem does_turned {w : World} {p : Nat} {B : Option Addr} {m d : Nat} {q : List Int} {v : Vw} (hp : Box w p 22 #[.slice B m d]) (hq : NumsF w B m d q) (hm : m ≤ 1048576) (hst : v.st.length = v.sh.length) (hl : v.sh.length ≤ 6) :
    Does w 77 #[.pointer (some ⟨p, 0, none⟩)] v ⟨permL v.sh q, q.map (fun a => v.st.getD a.toNat 0), v.off⟩ (permB v.sh q) := by
  rintro w1 base b hg hlow ⟨A, n, c, A', n', c', hv⟩
  obtain ⟨s, t, o⟩ := v
  dsimp only at hst hl
  have hp1 := hp.grown hg (by simp)
  have hsn : s.length = n := hv.sh.1
  have htn : t.length = n' := hv.st.1
  have HW := Lib.hid (fun w' (hg' : w1.grownBy w' none) => own7_permute A B n c m d s q w' (hv.sh.numsF.grow hg') ((hq.grow hg).grow hg') (by omega) hm)
  have HV := Lib.hid hv
  have HP := Lib.hid hp1
  have HQ1 := Lib.hid (hq.grow hg)
  have HQL := Lib.hid (show q.length = m from hq.len)
  have HQB := Lib.hid (show ∀ x, x < m → ∃ b0 off0, B = some ⟨b0, off0, none⟩ ∧ b0 < base from fun x hx => by
    obtain ⟨b0, off0, e, h1, _⟩ := hq.1.2.at_ hx
    exact ⟨b0, off0, e, by omega⟩)
  obtain ⟨x0, x1, x2, f0, f1, f2⟩ := box_three_cells hv.box
  have y0 := box_one_cell hp1
  have HC := Lib.hid (show ∀ w', w1.grownBy w' none → w'.cell? ⟨b, 0, none⟩ = some (.slice A n c) ∧ w'.cell? ⟨p, 0, none⟩ = some (.slice B m d) from fun w' hg =>
    ⟨(box_three_cells (hv.box.grown hg (by simp))).1, box_one_cell (hp1.grown hg (by simp))⟩)
  have HPB := Lib.hid (show p < base ∧ base ≤ b ∧ b < w1.heap.size from ⟨Nat.lt_of_lt_of_le hp.small hlow, hv.low, hv.box.small⟩)
  have HNN := Lib.hid (show n' = n ∧ n ≤ 6 by omega)
  clear hp hp1 hv hg hlow f0 f1 f2 x1 x2 hst hl hq
  show Calls Try.prog 77 #[.pointer (some ⟨b, 0, none⟩), .pointer (some ⟨p, 0, none⟩)] w1 _
  cases hb : permB s q with
  | false =>
    rw [hb] at HW
    go_enter Try.func77, Try.ntmps77
    go_wp2_with fail
    go_region_held3 (fun w' => w'.cell? ⟨b, 0, none⟩ = some (.slice A n c) ∧ w'.cell? ⟨p, 0, none⟩ = some (.slice B m d)) (first | exact KEEP.out | go_keep) (first
      | (go_at_call 78; refine (HW.out _ (grown_drewN (grown_refl _ _) _)).mono ?_; rintro e w2 ⟨A2, c2, rfl, ho, hg2⟩; have HG2 := Lib.hid (grown_join (grown_drewN (grown_refl w1 none) _) hg2 (.inr (by simp))); have KEEP := Lib.hid (HC.out _ HG2.out); clear ho hg2))
    all_goals
      go_wp2_with fail
      go_ret
      exact ⟨rfl, fun u hu _ => grown_join hu HG2.out (.inr (by simp)), fun h => by cases h⟩
  | true =>
    rw [hb] at HW
    have HPA := Lib.hid (perm_all8 hb)
    have hmn : n = m ∧ n = n' := by have h1 := HPA.out.1; have h2 := HQL.out; have h3 := HNN.out; omega
    obtain ⟨rfl, rfl⟩ := hmn
    clear hb
    go_enter Try.func77, Try.ntmps77
    go_wp2_with fail
    go_region_held3 (fun w' => w'.cell? ⟨b, 0, none⟩ = some (.slice A n c) ∧ w'.cell? ⟨p, 0, none⟩ = some (.slice B n d)) (first | exact KEEP.out | go_keep) (first
      | (go_at_call 78; refine (HW.out _ (grown_drewN (grown_refl _ _) _)).mono ?_; rintro e w2 ⟨A2, c2, rfl, ho, hg2⟩; have HG2 := Lib.hid (grown_join (grown_drewN (grown_refl w1 none) _) hg2 (.inr (by simp))); have KEEP := Lib.hid (HC.out _ HG2.out); have HO2 : Hid (OwnI w2 w1.heap.size A2 (permL s q).length c2 (permL s q)) := Lib.hid ho; clear ho hg2))
    all_goals
      generalize hzs : permL s q = zs at *
      generalize hmm : zs.length = mm at *
      have hX2 := HV.out.box.grown HG2.out (by simp)
      have hP2 := HP.out.grown HG2.out (by simp)
      have HX2 := Lib.hid hX2
      have HP2 := Lib.hid hP2
      have y0' := box_one_cell hP2
      have HSZ := Lib.hid HG2.out.size
      clear KEEP x0 y0 hX2 hP2
      obtain ⟨Z, hmk, hZ⟩ := ints_zeros w2 n (by have := HNN.out; omega)
      have HZ := Lib.hid hZ
      clear hZ
      go_upto_region 5 with fail
      have y0'' := box_one_cell (HP2.out.grown (World.grownBy_alloc w2 (.cells Z 3) none) (by simp))
      go_wp2_with fail
      go_loopw [25] (fun i wr => ∃ x : Nat, x ≤ n ∧ i = .int .i64 x ∧ OwnI wr w2.heap.size (some ⟨w2.heap.size, 0, none⟩) n n ((q.take x).map (fun a : Int => t.getD a.toNat 0) ++ List.replicate (n - x) 0) ∧ w2.grownBy wr none) (fun i _ => n - (intOf i).toNat)
      case atStart => exact ⟨0, Nat.zero_le _, rfl, by simpa using HZ.out w2 _ (Nat.le_refl _), World.grownBy_alloc _ _ _⟩
      case round =>
        obtain ⟨x, hx, rfl, ho, hg⟩ := hrel
        have HOX := Lib.hid ho
        have HG := Lib.hid hg
        have HXW := Lib.hid (HX2.out.grown hg (by simp))
        have HG1W := Lib.hid (grown_join HG2.out hg (.inr (by simp)))
        clear ho hg y0' y0''
        by_cases hlt : x < n
        · obtain ⟨b0, off0, rfl, _, hc0⟩ := (HQ1.out.grow HG1W.out).1.2.at_ hlt
          have hbq := HPA.out.2 x (by rw [hsn]; exact hlt)
          have HFS := Lib.hid (front_set (q := q) (f := fun a : Int => t.getD a.toNat 0) (x := x) (n := n) HQL.out hlt)
          generalize hqa : q.getD x 0 = a at *
          obtain ⟨y, rfl⟩ : ∃ y : Nat, a = (y : Int) := ⟨a.toNat, by omega⟩
          have hy : y < n := by omega
          obtain ⟨r', rfl, _, hc', _⟩ := (HV.out.st.grow HG1W.out).at_ hy
          obtain ⟨r, hre, _, k0, k1⟩ := HOX.out.at_ hlt
          injection hre with hre
          injection hre with hre
          subst hre
          have HFS2 : Hid (_ = _) := Lib.hid (show ((q.take x).map (fun a : Int => t.getD a.toNat 0) ++ List.replicate (n - x) 0).set x (t.getD y 0) = _ from HFS.out)
          have HPU := Lib.hid (HOX.out.put x (t.getD y 0))
          have HGP := Lib.hid (grown_put (j := x) HG.out (.inr (Nat.le_refl _)) (.int .i64 (t.getD y 0)))
          rw [HFS2.out] at HPU
          generalize t.getD y 0 = z at *
          have x1 := (box_three_cells HXW.out).2.1
          have d1 : decide ((y : Int) < 0) = false := by simp
          have d2 : decide ((n : Int) ≤ (y : Int)) = false := decide_eq_false (by omega)
          have d3 : decide (n ≤ y) = false := decide_eq_false (by omega)
          clear hqa hbq
          go_wp2_with fail
          go_roundw
          case rel => exact ⟨x + 1, by omega, by go_num, HPU.out, HGP.out⟩
          case measure => simp [intOf]; omega
        · obtain rfl : x = n := by omega
          have HOL : Hid (OwnI wr w2.heap.size (some ⟨w2.heap.size, 0, none⟩) x x (q.map (fun a : Int => t.getD a.toNat 0))) := Lib.hid (by
            have h1 := HOX.out
            rw [Nat.sub_self, List.replicate_zero, List.append_nil, List.take_of_length_le (by rw [HQL.out]; exact Nat.le_refl _)] at h1
            exact h1)
          have HFIN : Hid (Changed ⟨zs, q.map (fun a : Int => t.getD a.toNat 0), o⟩ true w1 base b (.returned (.bool true)) ((wr.setCell ⟨b, 0, none⟩ (.slice A2 mm c2)).setCell ⟨b, 1, none⟩ (.slice (some ⟨w2.heap.size, 0, none⟩) x x))) := Lib.hid (by
            have hpb := HPB.out
            have hsz := HSZ.out
            have ho2 : OwnI w2 w1.heap.size A2 mm c2 zs := HO2.out
            have hA2 : ∀ g, A2.map (·.block) = some g → w1.heap.size ≤ g ∧ g < w2.heap.size := fun g hg => own_low8 ho2 hg
            refine ⟨rfl, fun u hu hul => ?_, fun _ => ⟨A2, mm, c2, some ⟨w2.heap.size, 0, none⟩, x, x, ?_⟩⟩
            · have h2 : u.grownBy wr none := grown_join hu HG1W.out (.inr (by simp))
              exact grown_put (grown_put h2 (.inr (by omega)) _) (.inr (by omega)) _
            · have hne2 : A2.map (·.block) ≠ some b := fun e => by have := hA2 b e; omega
              have hne4 : (some (⟨w2.heap.size, 0, none⟩ : Addr)).map (·.block) ≠ some b := fun e => by injection e with e; have e' : w2.heap.size = b := e; omega
              refine ⟨(HXW.out.put 0 _).put 1 _, own_put_other (own_put_other ((ho2.grow HG.out).lower (by omega)) hne2 _) hne2 _, own_put_other (own_put_other (HOL.out.lower (by omega)) hne4 _) hne4 _, hpb.2.1, hne2, hne4, ?_⟩
              cases hq : A2.map (·.block) with
              | none => exact .inl rfl
              | some g =>
                refine .inr fun e => ?_
                have h1 := hA2 g hq
                injection e with e
                have e' : g = w2.heap.size := e
                omega)
          obtain ⟨q0, q1, q2, g0, g1, g2⟩ := box_three_cells HXW.out
          go_wp2_with fail
          go_ret
          rw [hzs]
          exact HFIN.out
end Go.Proofs.Ytkpfhjjojchdlaa
end
