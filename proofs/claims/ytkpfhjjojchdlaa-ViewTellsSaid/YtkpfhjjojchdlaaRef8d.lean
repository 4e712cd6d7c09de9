/-
  Layer 8: the reference's with.
-/
import Derived.Test.YtkpfhjjojchdlaaRef8b
import Derived.Maps.AppendAt
namespace Go.Proofs.Ytkpfhjjojchdlaa
open Go.ChangeShapes Go.WideShapes Go.ChangeAt Go.RowKit
set_option linter.unusedVariables false
set_option maxRecDepth 100000

theorem own_put_other {w : World} {B n c g j : Nat} {A : Option Addr} {zs : List Int} (h : OwnI w B A n c zs) (hg : A.map (·.block) ≠ some g) (u : Value) : OwnI (w.setCell ⟨g, j, none⟩ u) B A n c zs :=
  ⟨h.1, h.2.kept (grown_put (grown_refl w (some g)) (.inl rfl) u) (.inr (by rw [map_own]; exact hg))⟩
theorem own_three {w : World} {B n c g : Nat} {A : Option Addr} {zs : List Int} (h : OwnI w B A n c zs) (hg : g < B) (u v s : Value) : OwnI (((w.setCell ⟨g, 0, none⟩ u).setCell ⟨g, 1, none⟩ v).setCell ⟨g, 2, none⟩ s) B A n c zs := by
  have hne : A.map (·.block) ≠ some g := fun e => by
    have := (h.2.lt g (by rw [map_own]; exact e)).1
    omega
  exact own_put_other (own_put_other (own_put_other h hne _) hne _) hne _
theorem two_put {w1 w4 w5 : World} {A1 A2 : Option Addr} {n k1 n' k2 i : Nat} {s t : List Int} (x y : Int) (h1 : OwnI w4 w1.heap.size A1 n k1 s) (h2 : OwnI w5 w4.heap.size A2 n' k2 t) (h01 : w1.grownBy w4 none) (hg : w4.grownBy w5 none) (hi : i < n) (hi' : i < n') :
    ∃ r1 r2, A1 = some ⟨r1, 0, none⟩ ∧ A2 = some ⟨r2, 0, none⟩ ∧ w5.cell? ⟨r1, i, none⟩ = some (.int .i64 (s.getD i 0)) ∧ w5.frozen? ⟨r1, i, none⟩ = false ∧ (w5.setCell ⟨r1, i, none⟩ (.int .i64 x)).cell? ⟨r2, i, none⟩ = some (.int .i64 (t.getD i 0)) ∧ (w5.setCell ⟨r1, i, none⟩ (.int .i64 x)).frozen? ⟨r2, i, none⟩ = false ∧
      OwnI ((w5.setCell ⟨r1, i, none⟩ (.int .i64 x)).setCell ⟨r2, i, none⟩ (.int .i64 y)) w1.heap.size (some ⟨r1, 0, none⟩) n k1 (s.set i x) ∧ OwnI ((w5.setCell ⟨r1, i, none⟩ (.int .i64 x)).setCell ⟨r2, i, none⟩ (.int .i64 y)) w1.heap.size (some ⟨r2, 0, none⟩) n' k2 (t.set i y) ∧
      w1.grownBy ((w5.setCell ⟨r1, i, none⟩ (.int .i64 x)).setCell ⟨r2, i, none⟩ (.int .i64 y)) none := by
  obtain ⟨r1, e1, hb1, _, _⟩ := h1.at_ hi
  subst e1
  have h1' := h1.grow hg
  obtain ⟨_, e1, _, hc1, hf1⟩ := h1'.at_ hi
  injection e1 with e1; injection e1 with e1; subst e1
  have hlt : r1 < w4.heap.size := by
    obtain ⟨r, e, h3, _⟩ := own_some h1
    injection e with e; subst e
    exact h3
  obtain ⟨r2, e2, hb2, _, _⟩ := h2.at_ hi'
  subst e2
  have hne : r1 ≠ r2 := by omega
  have h2' := own_put_other (g := r1) (j := i) h2 (by intro e; injection e with e; exact hne e.symm) (.int .i64 x)
  obtain ⟨_, e2, _, hc2, hf2⟩ := h2'.at_ hi'
  injection e2 with e2; injection e2 with e2; subst e2
  have hsz := h01.size
  exact ⟨r1, r2, rfl, rfl, hc1, hf1, hc2, hf2, own_put_other (h1'.put i x) (by intro e; injection e with e; exact hne e) _, (h2'.put i y).lower hsz, grown_put (grown_put (grown_join h01 hg (.inr (by simp))) (.inr hb1) _) (.inr (by omega)) _⟩
theorem fits_none {A : Option Addr} {n c : Nat} (h : Fits A n c) : A = none → n = 0 ∧ c = 0 := fun e => by
  have h1 := h.1
  have h2 := h.2 e
  omega
/-- append of numbers in a region that isn't drawn. -/
theorem list_append_ints {ops : Array Oper} {rest : List Oper} {o : Oper} {a : Act} {w : World} {Q : Exit → Act → World → Prop} {base n c m c' B : Nat} {A A' : Option Addr} {xs ys : List Int} (hgd : o.guard = none) (d s : Operand)
    (ho : o.op = .call { callee := .builtin .append, args := #[d, s], argTypes := #[22, 22] }) (hd : a.eval d = .slice A n c) (hs : a.eval s = .slice A' m c') (hown : OwnI w base A n c xs) (hsrc : Nums w B A' m ys) (hnone : A' = none → m = 0 ∧ c' = 0) (hb : base ≤ w.heap.size) (hle : n + m ≤ 4194304)
    (hK : ∀ A1 c1 w1, Hid (OwnI w1 base A1 (n + m) c1 (xs ++ ys)) → Hid (w.grownBy w1 (A.map (·.block))) → wpList Try.prog ops Q rest (a.put o.dst (.slice A1 (n + m) c1)) w1) : wpList Try.prog ops Q (o :: rest) a w := by
  refine wpList_plain hgd fun K hK' => ?_
  obtain ⟨A1, c1, w1, hrun, h1, h2⟩ := run_append_ints hown hsrc hnone hb hle o.type
  unfold Oper.wp execOp
  simp only [ho, resolve, invoke, builtin, Sem.run_bind, Sem.run_pure, Result.andThen_ok, List.map_toArray, List.map_cons, List.map_nil, hd, hs, hrun]
  exact hK' _ _ (hK _ _ _ (Lib.hid h1) (Lib.hid h2))
theorem new8 (w : World) (o : Obj) : (w.alloc o).heap[w.heap.size]? = some o := heap_alloc_new w o
/-- a view is told whose rows are the call's own. -/
def GaveVO (v : Vw) (w : World) (e : Ending) (w' : World) : Prop := ∃ A n c A' n' c', e = .returned (.agg #[.slice A n c, .slice A' n' c', .int .i64 v.off]) ∧ OwnI w' w.heap.size A n c v.sh ∧ OwnI w' w.heap.size A' n' c' v.st ∧ w.grownBy w' none
set_option maxHeartbeats 2000000 in
theorem ref8with_any (A A' : Option Addr) (n c n' c' : Nat) (s t : List Int) (o x y z : Int) (i : Nat) (w : World) (h : NumsF w A n c s) (h' : NumsF w A' n' c' t) (hn : n ≤ 1048576) (hn' : n' ≤ 1048576) (hi : i < n) (hi' : i < n') :
    Calls Try.prog 55 #[.agg #[.slice A n c, .slice A' n' c', .int .i64 o], .int .i64 (i : Int), .int .i64 x, .int .i64 y, .int .i64 z] w (GaveVO (setV ⟨s, t, o⟩ i x y z) w) := by
  have HQ : Hid (∀ w', w.grownBy w' none → Nums w' w'.heap.size A n s) := Lib.hid fun w' hg => h.1.grow hg
  have HQ' : Hid (∀ w', w.grownBy w' none → Nums w' w'.heap.size A' n' t) := Lib.hid fun w' hg => h'.1.grow hg
  have HE := Lib.hid (fits_none h.2)
  have HE' := Lib.hid (fits_none h'.2)
  obtain ⟨w1, hw1⟩ : ∃ w1, w1 = (w.alloc (.cells #[.slice A n c, .slice A' n' c', .int .i64 o] 24)).alloc (.cells #[.slice none 0 0, .slice none 0 0, .int .i64 0] 24) := ⟨_, rfl⟩
  have hb := boxes8 w 24 #[.slice A n c, .slice A' n' c', .int .i64 o] #[.slice none 0 0, .slice none 0 0, .int .i64 0]
  rw [← hw1] at hb
  obtain ⟨hx, hy, hg1⟩ := hb
  have HX := Lib.hid hx
  have HY := Lib.hid hy
  have HG1 := Lib.hid hg1
  have HW1 := Lib.hid hw1
  clear h h' hw1 hx hy hg1
  go_enter Try.func55, Try.ntmps55
  go_upto_region 1 with fail
  rw [← HW1.out]
  have x0 := (HX.out.alloc (.cells #[] 3)).get 0
  go_upto_region 4 with (first
    | (at_builtin; refine list_append_ints rfl (.tmp 13) (.tmp 15) rfl (by rfl) (by rfl) (base := w1.heap.size) (xs := []) (ints_empty (new8 _ _) (by omega)) (HQ.out _ (grown_alloc HG1.out _)) HE.out (by simp) (by omega) ?_; intro B1 k1 w4 ho4 hg4; have hgc4 : Hid (w1.grownBy w4 none) := Lib.hid (grown_join (World.grownBy_alloc w1 _ none) hg4.out (.inr fun b hb => by simp at hb; omega)); have HG4 := Lib.hid (grown_join HG1.out hgc4.out (.inr (by simp))); have x1 := ((HX.out.grown hgc4.out (by simp)).alloc (.cells #[] 3)).get 1)
    | (at_builtin; refine list_append_ints rfl (.tmp 17) (.tmp 19) rfl (by rfl) (by rfl) (base := w4.heap.size) (xs := []) (ints_empty (new8 _ _) (by omega)) (HQ'.out _ (grown_alloc HG4.out _)) HE'.out (by simp) (by omega) ?_; intro B2 k2 w5 ho5 hg5; have hgc5 : Hid (w4.grownBy w5 none) := Lib.hid (grown_join (World.grownBy_alloc w4 _ none) hg5.out (.inr fun b hb => by simp at hb; omega)); obtain ⟨r1, r2, rfl, rfl, q1, q2, q3, q4, o1, o2, hg6⟩ := two_put (i := i) x y (ints_as (by omega) (by simp) ho4.out : OwnI w4 w1.heap.size B1 n k1 s) (ints_as (by omega) (by simp) ho5.out : OwnI w5 w4.heap.size B2 n' k2 t) hgc4.out hgc5.out hi hi'; have O1 := Lib.hid o1; have O2 := Lib.hid o2; have HG6 := Lib.hid hg6; clear o1 o2 hg6))
  obtain ⟨w6, hw6⟩ : ∃ w6, w6 = (w5.setCell ⟨r1, i, none⟩ (.int .i64 x)).setCell ⟨r2, i, none⟩ (.int .i64 y) := ⟨_, rfl⟩
  rw [← hw6] at O1 O2 HG6 ⊢
  have HG7 := Lib.hid (grown_three (grown_join HG1.out HG6.out (.inr (by simp))) (b := w.heap.size + 1) (by omega) (.slice (some ⟨r1, 0, none⟩) n k1) (.slice (some ⟨r2, 0, none⟩) n' k2) (.int .i64 z))
  have hsz : w.heap.size + 1 < w1.heap.size := HY.out.small
  have HP1 := Lib.hid (own_three O1.out hsz (.slice (some ⟨r1, 0, none⟩) n k1) (.slice (some ⟨r2, 0, none⟩) n' k2) (.int .i64 z) |>.lower HG1.out.size)
  have HP2 := Lib.hid (own_three O2.out hsz (.slice (some ⟨r1, 0, none⟩) n k1) (.slice (some ⟨r2, 0, none⟩) n' k2) (.int .i64 z) |>.lower HG1.out.size)
  obtain ⟨p0, p1, p2, f0, f1, f2, d0, d1, d2⟩ := (HY.out.grown HG6.out (by simp)).three8 (.slice (some ⟨r1, 0, none⟩) n k1) (.slice (some ⟨r2, 0, none⟩) n' k2) (.int .i64 z)
  clear hw6 x0 x1 q1 q2 q3 q4 hg4 hg5 ho4 ho5 hsz
  go_wp2_with fail
  exact bodyPost_ret (v := .agg #[.slice (some ⟨r1, 0, none⟩) n k1, .slice (some ⟨r2, 0, none⟩) n' k2, .int .i64 z]) (by simp [results, Try.results55, go_sem, d0, d1, d2]) rfl ⟨_, _, _, _, _, _, rfl, HP1.out, HP2.out, HG7.out⟩
end Go.Proofs.Ytkpfhjjojchdlaa
