/-
  Layer 7, the program's own: slices.Clone and slices.Delete at Shape; Without.
-/
import Derived.Test.YtkpfhjjojchdlaaAt7
import Derived.Lib.AppendZeros
import Derived.Lib.SliceRun
namespace Go.Proofs.Ytkpfhjjojchdlaa
open Go.ChangeShapes Go.WideShapes Go.ChangeAt Go.RowKit
set_option linter.unusedVariables false
set_option maxRecDepth 100000

/-! ### append and the cuts, at whatever type of slices of numbers -/
theorem append_types {t u e e' : TypeId} (ht : Try.prog.underlying t = some (.slice e)) (hu : Try.prog.underlying u = some (.slice e')) (ty : TypeId) (A A' : Option Addr) (n c m c' : Nat) (w : World) :
    (Builtin.append_ #[t, u] ty #[.slice A n c, .slice A' m c']).run Try.prog w = (Builtin.append_ #[t, t] ty #[.slice A n c, .slice A' m c']).run Try.prog w := by
  simp [Builtin.append_, run_underlying ht, run_underlying hu]
theorem run_append_shape {w : World} {base n c m c' B : Nat} {A A' : Option Addr} {xs ys : List Int} {u : TypeId} (hu : Try.prog.underlying u = some (.slice 3)) (hown : OwnI w base A n c xs) (hsrc : Nums w B A' m ys) (hnone : A' = none → m = 0 ∧ c' = 0) (hb : base ≤ w.heap.size) (hle : n + m ≤ 4194304) (ty : TypeId) :
    ∃ A1 c1 w1, (Builtin.append_ #[27, u] ty #[.slice A n c, .slice A' m c']).run Try.prog w = .ok (.slice A1 (n + m) c1) w1 ∧ OwnI w1 base A1 (n + m) c1 (xs ++ ys) ∧ w.grownBy w1 (A.map (·.block)) := by
  obtain ⟨i0, hi, hz0, hz1, hz2⟩ := info_parts info_int
  rw [append_types Try.underlying27 hu]
  cases A' with
  | none =>
    obtain ⟨rfl, rfl⟩ := hnone rfl
    have hrun := run_append_owned_none (P := Try.prog) (w := w) base 27 ty 3 i0 1 Try.underlying27 hi _ n _ hown.2
    have hy : ys = [] := List.eq_nil_of_length_eq_zero hsrc.1
    subst hy
    rw [Nat.add_zero, List.append_nil]
    exact ⟨A, c, w, hrun, hown, grown_refl _ _⟩
  | some ad =>
    have hnews : ∀ j u, (intV ys)[j]? = some u → w.cell? (ad.add j) = some u := by
      intro j u hu
      have hj : j < ys.length := by rw [← intV_length]; exact (List.getElem?_eq_some_iff.1 hu).1
      obtain ⟨b, o, e, _, hc⟩ := hsrc.2 (by have := hsrc.1; omega)
      injection e with e
      subst e
      rw [Addr.add_lit, hc j (by have := hsrc.1; omega), ← intV_get ys j hj, hu]
    obtain ⟨v', w', hr, h2, h3, h4, h5⟩ := run_append_own_at (P := Try.prog) (w := w) base 27 ty 3 i0 _ 1 8 Try.underlying27 hi hz0 hz1 hz2 rfl (by omega) _ n _ hown.2 ad m c' (intV ys) (by rw [intV_length, hsrc.1]; omega) hnews (intV_one _) (by simp only [maxLen]; omega) (by omega) hb
    obtain ⟨A1, c1, rfl⟩ := own_slice1 h2
    refine ⟨A1, c1, w', hr, ⟨by rw [List.length_append, hown.1, hsrc.1], ?_⟩, by rw [map_own] at h3; exact h3⟩
    have e : intV (xs ++ ys) = intV xs ++ intV ys := by simp [intV]
    rw [e]
    exact h2
/-- append as one step of a region that draws its order, where its run is known. -/
theorem step_append_at {ops : Array Oper} {o : Oper} {a : Act} {w : World} {K : Act → World → Prop} {Q : Exit → Act → World → Prop} {E : Prop} {t u : TypeId} (hgd : o.guard = none) (d s : Operand)
    (ho : o.op = .call { callee := .builtin .append, args := #[d, s], argTypes := #[t, u] }) (vd vs : Value) (hd : a.eval d = vd) (hs : a.eval s = vs) {v' : Value} {w' : World} (hr : (Builtin.append_ #[t, u] o.type #[vd, vs]).run Try.prog w = .ok v' w') (hK : K (a.put o.dst v') w') :
    if Region.wanted o (yielded ops a.tmps) = true then Oper.wp Try.prog o a w K Q else E := by
  have hw : Region.wanted o (yielded ops a.tmps) = true := by simp [Region.wanted, hgd]
  rw [if_pos hw]
  unfold Oper.wp
  simp [execOp, ho, resolve, invoke, builtin, hd, hs, hr, Result.andThen]
  exact hK
theorem size_shape (w : World) : (sizeOf (Try.prog.elem 27)).run Try.prog w = .ok 1 w := by kernel_rfl
theorem cut_h (g o n c k : Nat) (hk : k ≤ c) (w : World) : (Instr.slice 27 (.slice (some ⟨g, o, none⟩) n c) none (some (.int .i64 (k : Int))) none).run Try.prog w = .ok (.slice (some ⟨g, o, none⟩) k c) w := by
  rw [run_slice_h (P := Try.prog) (w := w) (t := 27) (ht := Try.underlying27) (kh := .i64) (h := (k : Int)) (h0 := by omega) (h2 := by omega), size_shape]
  simp [Result.andThen, sliced, Addr.add]
theorem cut_l (g n c k : Nat) (hk : k ≤ n) (w : World) : (Instr.slice 27 (.slice (some ⟨g, 0, none⟩) n c) (some (.int .i64 (k : Int))) none none).run Try.prog w = .ok (.slice (some ⟨g, if c = k then 0 else k, none⟩) (n - k) (c - k)) w := by
  rw [run_slice_l (P := Try.prog) (w := w) (t := 27) (ht := Try.underlying27) (kl := .i64) (l := (k : Int)) (h0 := by omega) (h1 := by omega), size_shape]
  by_cases h : c = k
  · simp [Result.andThen, sliced, h]
  · simp [Result.andThen, sliced, Addr.add, h] <;> omega
theorem cut_lh (g n c k l : Nat) (hk : k ≤ l) (hl : l ≤ c) (hc : k < c) (w : World) : (Instr.slice 27 (.slice (some ⟨g, 0, none⟩) n c) (some (.int .i64 (k : Int))) (some (.int .i64 (l : Int))) none).run Try.prog w = .ok (.slice (some ⟨g, k, none⟩) (l - k) (c - k)) w := by
  rw [run_slice_lh (P := Try.prog) (w := w) (t := 27) (ht := Try.underlying27) (kl := .i64) (kh := .i64) (l := (k : Int)) (h := (l : Int)) (h0 := by omega) (h1 := by omega) (h2 := by omega), size_shape]
  have h : ¬ c = k := by omega
  simp [Result.andThen, sliced, Addr.add, h] <;> omega
theorem cut_lhm (A : Option Addr) (n c : Nat) (l h m : Int) (h0 : 0 ≤ l) (h1 : l ≤ h) (h2 : h ≤ m) (h3 : m ≤ c) : ∃ v, ∀ w : World, (Instr.slice 27 (.slice A n c) (some (.int .i64 l)) (some (.int .i64 h)) (some (.int .i64 m))).run Try.prog w = .ok v w := by
  refine ⟨sliced A l.toNat h.toNat m.toNat 1, fun w => ?_⟩
  rw [run_slice_lhm (P := Try.prog) (w := w) (t := 27) (ht := Try.underlying27) (kl := .i64) (kh := .i64) (km := .i64) (l := l) (h := h) (m := m) (h0 := h0) (h1 := h1) (h2 := h2) (h3 := h3), size_shape]
  rfl
/-! ### Clone -/
theorem nil_shape (A : Option Addr) (n c : Nat) (w : World) : (binOp .eql 27 (.slice A n c) (.slice none 0 0)).run Try.prog w = .ok (.bool A.isNone) w :=
  Lib.run_eql_slice_nil w 27 3 A n c 0 0 Try.underlying27
set_option maxHeartbeats 1000000 in
theorem own7_clone (A : Option Addr) (n c : Nat) (s : List Int) (w : World) (h : NumsF w A n c s) (hn : n ≤ 1048576) :
    Calls Try.prog 69 #[.slice A n c] w (GaveInts s w) := by
  cases A with
  | none =>
    have hc := h.2.2 rfl
    have hn0 : n = 0 := by have := h.2.1; omega
    subst hc
    subst hn0
    have hs : s = [] := List.eq_nil_of_length_eq_zero h.len
    subst hs
    clear h
    have hb := fun w' => nil_shape none 0 0 w'
    simp only [Option.isNone_none] at hb
    go_enter Try.func69, Try.ntmps69
    go_wp2_with fail
    go_ret
    exact ⟨none, 0, rfl, OwnI.nil _ _, grown_refl _ _⟩
  | some a =>
    have hnum := h.1.grow (World.grownBy_alloc w (.cells #[] 3) none)
    obtain ⟨A1, c1, w1, hrun, ho, hg⟩ := run_append_shape (u := 27) (ys := s) (c' := c) Try.underlying27 (ints_empty (heap_alloc_new w (.cells #[] 3)) (Nat.le_refl _)) hnum (fun e => by cases e) (by simp) (by omega) 27
    have HO := Lib.hid ho
    have HG := Lib.hid (grown_join (World.grownBy_alloc w (.cells #[] 3) none) hg (.inr fun b hb => by simp at hb; omega))
    have hl := h.len
    rw [Nat.zero_add] at hrun
    clear h hnum ho hg
    have hb := fun w' => nil_shape (some a) n c w'
    simp only [Option.isNone_some] at hb
    go_enter Try.func69, Try.ntmps69
    go_wp2_with (at_builtin; refine Lib.wpList_append_run _ rfl (.tmp 5) (.tmp 6) 27 27 rfl _ _ rfl rfl _ _ hrun ?_)
    go_ret
    exact GaveInts.of (List.nil_append s) hl (ints_as (Nat.zero_add n) rfl HO.out) HG.out
/-! ### Delete -/
set_option maxHeartbeats 2000000 in
theorem own7_delete (g n c i base : Nat) (xs : List Int) (w : World) (h : OwnI w base (some ⟨g, 0, none⟩) n c xs) (hi : i < n) (hn : n ≤ 1048576) :
    Calls Try.prog 91 #[.slice (some ⟨g, 0, none⟩) n c, .int .i64 i, .int .i64 ((i : Int) + 1)] w fun e w' =>
      e = .returned (.slice (some ⟨g, 0, none⟩) (n - 1) c) ∧ OwnI w' base (some ⟨g, 0, none⟩) (n - 1) c (xs.take i ++ xs.drop (i + 1)) ∧ w.grownBy w' (some g) := by
  obtain ⟨N, rfl⟩ : ∃ N, n = N + 1 := ⟨n - 1, by omega⟩
  rw [Nat.add_sub_cancel]
  obtain ⟨hl, _, hrow⟩ := h
  obtain ⟨e, h0⟩ | ⟨g', c', cur, e, hbase, hcell, hnc, hcm, hcs, htake⟩ := hrow
  · cases e
  injection e with e1 _ e3
  injection e1 with e1
  injection e1 with e1
  subst e1; subst e3
  rw [Nat.mul_one] at hcs htake
  obtain ⟨i0, hi0, hz0, hz1, hz2⟩ := info_parts info_int
  have hc : ∀ j, j < N + 1 → w.cell? ⟨g, j, none⟩ = some (.int .i64 (xs.getD j 0)) := fun j hj => by
    have h1 : cur.toList[j]? = (intV xs)[j]? := by rw [← htake, List.getElem?_take_of_lt hj]
    rw [cell_of_row w g j _ _ _ hcell, ← Array.getElem?_toList, h1, intV_get xs j (by omega)]
  have hdl : (intV (xs.drop (i + 1))).length = N - i := by rw [intV_length, List.length_drop]; omega
  obtain ⟨B, hB⟩ : ∃ B : Nat, B = if c = i + 1 then 0 else i + 1 := ⟨_, rfl⟩
  have hnews : ∀ j u, (intV (xs.drop (i + 1)))[j]? = some u → w.drew.cell? ((⟨g, B, none⟩ : Addr).add j) = some u := fun j u hu => by
    have hj : j < N - i := by rw [← hdl]; exact (List.getElem?_eq_some_iff.1 hu).1
    rw [hB, if_neg (by omega), Addr.add_lit]
    show w.cell? _ = _
    rw [hc _ (by omega), ← hu, intV_get _ _ (by rw [List.length_drop]; omega)]
    simp [List.getD, List.getElem?_drop]
  have hcur : cur.toList.take i ++ intV (xs.drop (i + 1)) = intV (xs.take i ++ xs.drop (i + 1)) := by
    have : cur.toList.take i = intV (xs.take i) := by
      rw [show cur.toList.take i = (cur.toList.take (N + 1)).take i by rw [List.take_take, Nat.min_eq_left (by omega)], htake]
      simp [intV]
    rw [this]; simp [intV]
  obtain ⟨row, hrow⟩ : ∃ row : Array Value, row = (cur.toList.take i ++ intV (xs.drop (i + 1)) ++ cur.toList.drop N).toArray := ⟨_, rfl⟩
  have hrl : row.size = c := by rw [hrow]; simp [hdl, hcs]; omega
  have hrt : row.toList.take N = intV (xs.take i ++ xs.drop (i + 1)) := by
    rw [hrow, List.toList_toArray, hcur, List.take_left' (by rw [intV_length, List.length_append, List.length_take, List.length_drop]; omega)]
  obtain ⟨W1, hW1⟩ : ∃ W1, W1 = w.drew.setRow g row := ⟨_, rfl⟩
  have hap : ∀ ty, (Builtin.append_ #[27, 27] ty #[.slice (some ⟨g, 0, none⟩) i c, .slice (some ⟨g, B, none⟩) (N - i) (c - (i + 1))]).run Try.prog w.drew = .ok (.slice (some ⟨g, 0, none⟩) N c) W1 := fun ty => by
    have := run_append_room (P := Try.prog) (w := w.drew) 27 ty 3 i0 Try.underlying27 hi0 g i c cur hcell ⟨g, B, none⟩ (N - i) (c - (i + 1)) (intV (xs.drop (i + 1))) (by rw [hdl, hz1, Nat.mul_one]) hnews (intV_one _) (by omega) (by rw [hz1, hdl, hcs]; omega)
    rw [hz1, Nat.mul_one, hdl, show i + (N - i) = N by omega, ← hrow, ← hW1] at this
    exact this
  have hg1 : W1.heap[g]? = some (.cells row 3 (0, 0)) := by rw [hW1]; exact setRow_heap w.drew g cur row 3 _ hcell
  have HG1 : Hid (w.grownBy W1 (some g)) := Lib.hid (by
    rw [hW1]
    exact ⟨rfl, rfl, rfl, by simp [World.setRow], fun k hk hne => setRow_other w.drew g k _ (by intro e; subst e; exact hne rfl)⟩)
  have hcl : ∀ ty, (Builtin.clear_ #[27] ty #[.slice (some ⟨g, N, none⟩) 1 (c - N)]).run Try.prog W1 = .ok (.tuple #[]) (W1.setCell ⟨g, N, none⟩ (.int .i64 0)) := fun ty => by
    have := Lib.run_clear_slice (P := Try.prog) W1 27 3 ty (.int .i64 0) Try.underlying27 (fun w => by kernel_rfl) rfl rfl g N 1 (c - N) (by omega) (fun j hj => by
      obtain rfl : j = 0 := by omega
      rw [Nat.add_zero, cell_of_row W1 g N _ _ _ hg1, Array.getElem?_eq_getElem (by omega)]; rfl) (fun j hj => by simp [World.frozen?, hg1])
    exact this
  have HO : Hid (OwnI (W1.setCell ⟨g, N, none⟩ (.int .i64 0)) base (some ⟨g, 0, none⟩) N c (xs.take i ++ xs.drop (i + 1))) := Lib.hid (by
    refine ⟨by rw [List.length_append, List.length_take, List.length_drop]; omega, by rw [intV_length, List.length_append, List.length_take, List.length_drop]; omega, .inr ⟨g, c, row.setIfInBounds N (.int .i64 0), rfl, hbase, ?_, by omega, hcm, by simp [hrl], ?_⟩⟩
    · simp [World.setCell, Array.getElem?_modify, hg1]
    · rw [Nat.mul_one, ← hrt]
      rw [Array.toList_setIfInBounds, List.take_set, List.set_eq_of_length_le (by rw [List.length_take]; omega)])
  have HG2 : Hid (w.grownBy (W1.setCell ⟨g, N, none⟩ (.int .i64 0)) (some g)) := Lib.hid (grown_put HG1.out (.inl rfl) _)
  obtain ⟨X, hX⟩ := cut_lhm (some ⟨g, 0, none⟩) (N + 1) c (i : Int) ((i : Int) + 1) ((N : Int) + 1) (by omega) (by omega) (by omega) (by omega)
  have hs4 := fun w' => cut_h g 0 (N + 1) c i (by omega) w'
  have hs5 : ∀ w' : World, (Instr.slice 27 (.slice (some ⟨g, 0, none⟩) (N + 1) c) (some (.int .i64 ((i : Int) + 1))) none none).run Try.prog w' = .ok (.slice (some ⟨g, B, none⟩) (N - i) (c - (i + 1))) w' := fun w' => by
    have := cut_l g (N + 1) c (i + 1) (by omega) w'
    rw [← hB, Nat.add_sub_add_right] at this
    exact this
  have hs6 : ∀ w' : World, (Instr.slice 27 (.slice (some ⟨g, 0, none⟩) N c) (some (.int .i64 (N : Int))) (some (.int .i64 ((N : Int) + 1))) none).run Try.prog w' = .ok (.slice (some ⟨g, N, none⟩) 1 (c - N)) w' := fun w' => by
    have := cut_lh g N c N (N + 1) (by omega) (by omega) (by omega) w'
    rw [Nat.add_sub_cancel_left] at this
    exact this
  have hq1 : (N : Int) + 1 ≤ (c : Int) := by omega
  have hq2 : (i : Int) ≤ (N : Int) := by omega
  have hq3 : (0 : Int) ≤ (i : Int) + 1 := by omega
  have hne2 : ¬ ((i : Int) = (i : Int) + 1) := by omega
  clear hl hcell hnc hcm hcs htake hc hdl hB hnews hcur hrow hrl hrt hg1 hW1 hi0 hz0 hz1 hz2
  go_enter Try.func91, Try.ntmps91
  go_wp2_with fail
  go_region_held3 (fun w' => True) (trivial) (refine step_append_at rfl (.tmp 22) (.tmp 25) rfl _ _ (by rfl) (by rfl) (hap _) ?_)
  go_wp2_with fail
  go_ret
  exact ⟨rfl, HO.out, HG2.out⟩
/-! ### Without -/
set_option maxHeartbeats 1000000 in
theorem own7_without (A : Option Addr) (n c : Nat) (s : List Int) (x : Int) (w : World) (h : NumsF w A n c s) (hn : n ≤ 1048576) :
    Calls Try.prog 80 #[.slice A n c, .int .i64 x] w (GaveIntsB (withoutL s x) (withoutB s x) w) := by
  have HR := Lib.hid (own7_right A n c _ s w h.1 hn)
  have HNM := Lib.hid (own7_named A n c x w)
  have HCL := Lib.hid (own7_clone A n c s w h hn)
  have HL := Lib.hid h.len
  clear h
  have HWN := Lib.hid (show withoutB s x = false → withoutL s x = [] from fun hb => by unfold withoutL; rw [hb]; rfl)
  have HWB := Lib.hid (show ∀ b, rightS s = b → withoutB s x = (b && decide (0 ≤ x ∧ x < s.length)) from fun b hb => by unfold withoutB; rw [hb])
  cases hr : rightS s with
  | false =>
    rw [hr] at HR
    have HNB := Lib.hid (show withoutB s x = false by rw [HWB.out _ hr]; rfl)
    have HNL := Lib.hid (HWN.out HNB.out)
    clear hr
    go_enter Try.func80, Try.ntmps80
    go_wp2_with fail
    refine HR.out.mono ?_
    rintro e w1 ⟨rfl, rfl⟩
    go_wp2_with fail
    go_ret2
    exact GaveIntsB.none_ HNL.out HNB.out (grown_refl _ _)
  | true =>
    rw [hr] at HR
    by_cases hx : 0 ≤ x ∧ x < n
    · rw [decide_eq_true hx] at HNM
      have HYB := Lib.hid (show withoutB s x = true by rw [HWB.out _ hr, HL.out]; simp only [Bool.true_and, decide_eq_true_eq]; exact hx)
      have HYL := Lib.hid (show withoutL s x = s.take x.toNat ++ s.drop (x.toNat + 1) by unfold withoutL; rw [if_pos HYB.out])
      obtain ⟨k, rfl⟩ : ∃ k : Nat, x = (k : Int) := ⟨x.toNat, by omega⟩
      have hk : k < n := by omega
      have s1 : IntKind.i64.wrap ((k : Int) + 1) = (k : Int) + 1 := IntWalk.i64_in _ (by omega)
      have s2 : wrap64 ((k : Int) + 1) = (k : Int) + 1 := IntWalk.wrap64_in _ (by omega)
      clear hr hx
      go_enter Try.func80, Try.ntmps80
      go_wp2_with fail
      refine HR.out.mono ?_
      rintro e w1 ⟨rfl, rfl⟩
      go_wp2_with fail
      refine HNM.out.mono ?_
      rintro e w2 ⟨rfl, rfl⟩
      go_wp2_with fail
      refine HCL.out.mono ?_
      rintro e w3 ⟨A3, c3, rfl, ho, hg⟩
      rw [HL.out] at ho ⊢
      obtain ⟨r, rfl, hbr, _, _⟩ := ho.at_ hk
      have HD := Lib.hid (own7_delete r n c3 k w2.heap.size s w3 ho hk hn)
      have HG := Lib.hid hg
      clear ho hg
      go_wp2_with fail
      refine HD.out.mono ?_
      rintro e w4 ⟨rfl, ho, hg⟩
      have HO := Lib.hid ho
      have HG2 := Lib.hid (grown_join HG.out hg (.inr fun b hb => by injection hb with hb; omega))
      clear ho hg
      go_wp2_with fail
      go_ret2
      exact GaveIntsB.of (by rw [HYL.out]; rfl) HYB.out.symm (by rw [HYL.out, List.length_append, List.length_take, List.length_drop, HL.out]; simp only [Int.toNat_natCast]; omega) HO.out HG2.out
    · rw [decide_eq_false hx] at HNM
      have HNB := Lib.hid (show withoutB s x = false by rw [HWB.out _ hr, HL.out]; simp only [Bool.true_and, decide_eq_false_iff_not]; exact hx)
      have HNL := Lib.hid (HWN.out HNB.out)
      clear hr hx
      go_enter Try.func80, Try.ntmps80
      go_wp2_with fail
      refine HR.out.mono ?_
      rintro e w1 ⟨rfl, rfl⟩
      go_wp2_with fail
      refine HNM.out.mono ?_
      rintro e w2 ⟨rfl, rfl⟩
      go_wp2_with fail
      go_ret2
      exact GaveIntsB.none_ HNL.out HNB.out (grown_refl _ _)
end Go.Proofs.Ytkpfhjjojchdlaa
