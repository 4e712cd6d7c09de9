/-
  Layer 8, the program's own: slices.Clone, Delete and Insert at slices of numbers.
-/
import Derived.Test.YtkpfhjjojchdlaaIns7
namespace Go.Proofs.Ytkpfhjjojchdlaa
open Go.ChangeShapes Go.WideShapes Go.ChangeAt Go.RowKit
set_option linter.unusedVariables false
set_option maxRecDepth 100000

theorem size_ints8 (w : World) : (sizeOf (Try.prog.elem 22)).run Try.prog w = .ok 1 w := by kernel_rfl
theorem cut_h8 (g o n c k : Nat) (hk : k ≤ c) (w : World) : (Instr.slice 22 (.slice (some ⟨g, o, none⟩) n c) none (some (.int .i64 (k : Int))) none).run Try.prog w = .ok (.slice (some ⟨g, o, none⟩) k c) w := by
  rw [run_slice_h (P := Try.prog) (w := w) (t := 22) (ht := Try.underlying22) (kh := .i64) (h := (k : Int)) (h0 := by omega) (h2 := by omega), size_ints8]
  simp [Result.andThen, sliced, Addr.add]
theorem cut_l8 (g n c k : Nat) (hk : k ≤ n) (w : World) : (Instr.slice 22 (.slice (some ⟨g, 0, none⟩) n c) (some (.int .i64 (k : Int))) none none).run Try.prog w = .ok (.slice (some ⟨g, if c = k then 0 else k, none⟩) (n - k) (c - k)) w := by
  rw [run_slice_l (P := Try.prog) (w := w) (t := 22) (ht := Try.underlying22) (kl := .i64) (l := (k : Int)) (h0 := by omega) (h1 := by omega), size_ints8]
  by_cases h : c = k
  · simp [Result.andThen, sliced, h]
  · simp [Result.andThen, sliced, Addr.add, h] <;> omega
theorem cut_lh8 (g n c k l : Nat) (hk : k ≤ l) (hl : l ≤ c) (hc : k < c) (w : World) : (Instr.slice 22 (.slice (some ⟨g, 0, none⟩) n c) (some (.int .i64 (k : Int))) (some (.int .i64 (l : Int))) none).run Try.prog w = .ok (.slice (some ⟨g, k, none⟩) (l - k) (c - k)) w := by
  rw [run_slice_lh (P := Try.prog) (w := w) (t := 22) (ht := Try.underlying22) (kl := .i64) (kh := .i64) (l := (k : Int)) (h := (l : Int)) (h0 := by omega) (h1 := by omega) (h2 := by omega), size_ints8]
  have h : ¬ c = k := by omega
  simp [Result.andThen, sliced, Addr.add, h] <;> omega
theorem cut_lhm8 (A : Option Addr) (n c : Nat) (l h m : Int) (h0 : 0 ≤ l) (h1 : l ≤ h) (h2 : h ≤ m) (h3 : m ≤ c) : ∃ v, ∀ w : World, (Instr.slice 22 (.slice A n c) (some (.int .i64 l)) (some (.int .i64 h)) (some (.int .i64 m))).run Try.prog w = .ok v w := by
  refine ⟨sliced A l.toNat h.toNat m.toNat 1, fun w => ?_⟩
  rw [run_slice_lhm (P := Try.prog) (w := w) (t := 22) (ht := Try.underlying22) (kl := .i64) (kh := .i64) (km := .i64) (l := l) (h := h) (m := m) (h0 := h0) (h1 := h1) (h2 := h2) (h3 := h3), size_ints8]
  rfl
/-! ### Clone -/
theorem nil_ints8 (A : Option Addr) (n c : Nat) (w : World) : (binOp .eql 22 (.slice A n c) (.slice none 0 0)).run Try.prog w = .ok (.bool A.isNone) w :=
  Lib.run_eql_slice_nil w 22 3 A n c 0 0 Try.underlying22
set_option maxHeartbeats 1000000 in
theorem own8_clone (A : Option Addr) (n c : Nat) (s : List Int) (w : World) (h : NumsF w A n c s) (hn : n ≤ 1048576) :
    Calls Try.prog 70 #[.slice A n c] w (GaveInts s w) := by
  cases A with
  | none =>
    have hc := h.2.2 rfl
    have hn0 : n = 0 := by have := h.2.1; omega
    subst hc
    subst hn0
    have hs : s = [] := List.eq_nil_of_length_eq_zero h.len
    subst hs
    clear h
    have hb := fun w' => nil_ints8 none 0 0 w'
    simp only [Option.isNone_none] at hb
    go_enter Try.func70, Try.ntmps70
    go_wp2_with fail
    go_ret
    exact ⟨none, 0, rfl, OwnI.nil _ _, grown_refl _ _⟩
  | some a =>
    have hnum := h.1.grow (World.grownBy_alloc w (.cells #[] 3) none)
    obtain ⟨A1, c1, w1, hrun, ho, hg⟩ := run_append_shape (u := 22) (ys := s) (c' := c) Try.underlying22 (ints_empty (heap_alloc_new w (.cells #[] 3)) (Nat.le_refl _)) hnum (fun e => by cases e) (by simp) (by omega) 22
    have HO := Lib.hid ho
    have HG := Lib.hid (grown_join (World.grownBy_alloc w (.cells #[] 3) none) hg (.inr fun b hb => by simp at hb; omega))
    have hl := h.len
    rw [Nat.zero_add] at hrun
    clear h hnum ho hg
    have hb := fun w' => nil_ints8 (some a) n c w'
    simp only [Option.isNone_some] at hb
    go_enter Try.func70, Try.ntmps70
    go_wp2_with (at_builtin; refine Lib.wpList_append_run _ rfl (.tmp 5) (.tmp 6) 22 22 rfl _ _ rfl rfl _ _ hrun ?_)
    go_ret
    exact GaveInts.of (List.nil_append s) hl (ints_as (Nat.zero_add n) rfl HO.out) HG.out
/-! ### Delete -/
set_option maxHeartbeats 2000000 in
theorem own8_delete (g n c i base : Nat) (xs : List Int) (w : World) (h : OwnI w base (some ⟨g, 0, none⟩) n c xs) (hi : i < n) (hn : n ≤ 1048576) :
    Calls Try.prog 81 #[.slice (some ⟨g, 0, none⟩) n c, .int .i64 i, .int .i64 ((i : Int) + 1)] w fun e w' =>
      e = .returned (.slice (some ⟨g, 0, none⟩) (n - 1) c) ∧ OwnI w' base (some ⟨g, 0, none⟩) (n - 1) c (xs.take i ++ xs.drop (i + 1)) ∧ w.grownBy w' (some g) := by
  obtain ⟨N, rfl⟩ : ∃ N, n = N + 1 := ⟨n - 1, by omega⟩
  rw [Nat.add_sub_cancel]
  obtain ⟨hl, _, hrow⟩ := h
  obtain ⟨e, h0⟩ | ⟨g', c', cur, e, hbase, hcell, hnc, hcm, hcs, htake⟩ := hrow
  · cases e
  injection e with e1 _ e3
  injection e1 with e1
  injection e1 with e1
  subst e1; subst e3
  rw [Nat.mul_one] at hcs htake
  obtain ⟨i0, hi0, hz0, hz1, hz2⟩ := info_parts info_int
  have hc : ∀ j, j < N + 1 → w.cell? ⟨g, j, none⟩ = some (.int .i64 (xs.getD j 0)) := fun j hj => by
    have h1 : cur.toList[j]? = (intV xs)[j]? := by rw [← htake, List.getElem?_take_of_lt hj]
    rw [cell_of_row w g j _ _ _ hcell, ← Array.getElem?_toList, h1, intV_get xs j (by omega)]
  have hdl : (intV (xs.drop (i + 1))).length = N - i := by rw [intV_length, List.length_drop]; omega
  obtain ⟨B, hB⟩ : ∃ B : Nat, B = if c = i + 1 then 0 else i + 1 := ⟨_, rfl⟩
  have hnews : ∀ j u, (intV (xs.drop (i + 1)))[j]? = some u → w.drew.cell? ((⟨g, B, none⟩ : Addr).add j) = some u := fun j u hu => by
    have hj : j < N - i := by rw [← hdl]; exact (List.getElem?_eq_some_iff.1 hu).1
    rw [hB, if_neg (by omega), Addr.add_lit]
    show w.cell? _ = _
    rw [hc _ (by omega), ← hu, intV_get _ _ (by rw [List.length_drop]; omega)]
    simp [List.getD, List.getElem?_drop]
  have hcur : cur.toList.take i ++ intV (xs.drop (i + 1)) = intV (xs.take i ++ xs.drop (i + 1)) := by
    have : cur.toList.take i = intV (xs.take i) := by
      rw [show cur.toList.take i = (cur.toList.take (N + 1)).take i by rw [List.take_take, Nat.min_eq_left (by omega)], htake]
      simp [intV]
    rw [this]; simp [intV]
  obtain ⟨row, hrow⟩ : ∃ row : Array Value, row = (cur.toList.take i ++ intV (xs.drop (i + 1)) ++ cur.toList.drop N).toArray := ⟨_, rfl⟩
  have hrl : row.size = c := by rw [hrow]; simp [hdl, hcs]; omega
  have hrt : row.toList.take N = intV (xs.take i ++ xs.drop (i + 1)) := by
    rw [hrow, List.toList_toArray, hcur, List.take_left' (by rw [intV_length, List.length_append, List.length_take, List.length_drop]; omega)]
  obtain ⟨W1, hW1⟩ : ∃ W1, W1 = w.drew.setRow g row := ⟨_, rfl⟩
  have hap : ∀ ty, (Builtin.append_ #[22, 22] ty #[.slice (some ⟨g, 0, none⟩) i c, .slice (some ⟨g, B, none⟩) (N - i) (c - (i + 1))]).run Try.prog w.drew = .ok (.slice (some ⟨g, 0, none⟩) N c) W1 := fun ty => by
    have := run_append_room (P := Try.prog) (w := w.drew) 22 ty 3 i0 Try.underlying22 hi0 g i c cur hcell ⟨g, B, none⟩ (N - i) (c - (i + 1)) (intV (xs.drop (i + 1))) (by rw [hdl, hz1, Nat.mul_one]) hnews (intV_one _) (by omega) (by rw [hz1, hdl, hcs]; omega)
    rw [hz1, Nat.mul_one, hdl, show i + (N - i) = N by omega, ← hrow, ← hW1] at this
    exact this
  have hg1 : W1.heap[g]? = some (.cells row 3 (0, 0)) := by rw [hW1]; exact setRow_heap w.drew g cur row 3 _ hcell
  have HG1 : Hid (w.grownBy W1 (some g)) := Lib.hid (by
    rw [hW1]
    exact ⟨rfl, rfl, rfl, by simp [World.setRow], fun k hk hne => setRow_other w.drew g k _ (by intro e; subst e; exact hne rfl)⟩)
  have hcl : ∀ ty, (Builtin.clear_ #[22] ty #[.slice (some ⟨g, N, none⟩) 1 (c - N)]).run Try.prog W1 = .ok (.tuple #[]) (W1.setCell ⟨g, N, none⟩ (.int .i64 0)) := fun ty => by
    have := Lib.run_clear_slice (P := Try.prog) W1 22 3 ty (.int .i64 0) Try.underlying22 (fun w => by kernel_rfl) rfl rfl g N 1 (c - N) (by omega) (fun j hj => by
      obtain rfl : j = 0 := by omega
      rw [Nat.add_zero, cell_of_row W1 g N _ _ _ hg1, Array.getElem?_eq_getElem (by omega)]; rfl) (fun j hj => by simp [World.frozen?, hg1])
    exact this
  have HO : Hid (OwnI (W1.setCell ⟨g, N, none⟩ (.int .i64 0)) base (some ⟨g, 0, none⟩) N c (xs.take i ++ xs.drop (i + 1))) := Lib.hid (by
    refine ⟨by rw [List.length_append, List.length_take, List.length_drop]; omega, by rw [intV_length, List.length_append, List.length_take, List.length_drop]; omega, .inr ⟨g, c, row.setIfInBounds N (.int .i64 0), rfl, hbase, ?_, by omega, hcm, by simp [hrl], ?_⟩⟩
    · simp [World.setCell, Array.getElem?_modify, hg1]
    · rw [Nat.mul_one, ← hrt]
      rw [Array.toList_setIfInBounds, List.take_set, List.set_eq_of_length_le (by rw [List.length_take]; omega)])
  have HG2 : Hid (w.grownBy (W1.setCell ⟨g, N, none⟩ (.int .i64 0)) (some g)) := Lib.hid (grown_put HG1.out (.inl rfl) _)
  obtain ⟨X, hX⟩ := cut_lhm8 (some ⟨g, 0, none⟩) (N + 1) c (i : Int) ((i : Int) + 1) ((N : Int) + 1) (by omega) (by omega) (by omega) (by omega)
  have hs4 := fun w' => cut_h8 g 0 (N + 1) c i (by omega) w'
  have hs5 : ∀ w' : World, (Instr.slice 22 (.slice (some ⟨g, 0, none⟩) (N + 1) c) (some (.int .i64 ((i : Int) + 1))) none none).run Try.prog w' = .ok (.slice (some ⟨g, B, none⟩) (N - i) (c - (i + 1))) w' := fun w' => by
    have := cut_l8 g (N + 1) c (i + 1) (by omega) w'
    rw [← hB, Nat.add_sub_add_right] at this
    exact this
  have hs6 : ∀ w' : World, (Instr.slice 22 (.slice (some ⟨g, 0, none⟩) N c) (some (.int .i64 (N : Int))) (some (.int .i64 ((N : Int) + 1))) none).run Try.prog w' = .ok (.slice (some ⟨g, N, none⟩) 1 (c - N)) w' := fun w' => by
    have := cut_lh8 g N c N (N + 1) (by omega) (by omega) (by omega) w'
    rw [Nat.add_sub_cancel_left] at this
    exact this
  have hq1 : (N : Int) + 1 ≤ (c : Int) := by omega
  have hq2 : (i : Int) ≤ (N : Int) := by omega
  have hq3 : (0 : Int) ≤ (i : Int) + 1 := by omega
  have hne2 : ¬ ((i : Int) = (i : Int) + 1) := by omega
  clear hl hcell hnc hcm hcs htake hc hdl hB hnews hcur hrow hrl hrt hg1 hW1 hi0 hz0 hz1 hz2
  go_enter Try.func81, Try.ntmps81
  go_wp2_with fail
  go_region_held3 (fun w' => True) (trivial) (refine step_append_at rfl (.tmp 22) (.tmp 25) rfl _ _ (by rfl) (by rfl) (hap _) ?_)
  go_wp2_with fail
  go_ret
  exact ⟨rfl, HO.out, HG2.out⟩
theorem run_append_ints8 {w : World} {base n c m c' B : Nat} {A A' : Option Addr} {xs ys : List Int} (hown : OwnI w base A n c xs) (hsrc : Nums w B A' m ys) (hnone : A' = none → m = 0 ∧ c' = 0) (hb : base ≤ w.heap.size) (hle : n + m ≤ 4194304) (ty : TypeId) :
    ∃ A1 c1 w1, (Builtin.append_ #[22, 22] ty #[.slice A n c, .slice A' m c']).run Try.prog w = .ok (.slice A1 (n + m) c1) w1 ∧ OwnI w1 base A1 (n + m) c1 (xs ++ ys) ∧ w.grownBy w1 (A.map (·.block)) ∧ (A1.map (·.block) = A.map (·.block) ∨ A1.map (·.block) = some w.heap.size) := by
  obtain ⟨i0, hi, hz0, hz1, hz2⟩ := info_parts info_int
  cases A' with
  | none =>
    obtain ⟨rfl, rfl⟩ := hnone rfl
    have hrun := run_append_owned_none (P := Try.prog) (w := w) base 22 ty 3 i0 1 Try.underlying22 hi _ n _ hown.2
    have hy : ys = [] := List.eq_nil_of_length_eq_zero hsrc.1
    subst hy
    rw [Nat.add_zero, List.append_nil]
    exact ⟨A, c, w, hrun, hown, grown_refl _ _, .inl rfl⟩
  | some ad =>
    have hnews : ∀ j u, (intV ys)[j]? = some u → w.cell? (ad.add j) = some u := by
      intro j u hu
      have hj : j < ys.length := by rw [← intV_length]; exact (List.getElem?_eq_some_iff.1 hu).1
      obtain ⟨b, o, e, _, hc⟩ := hsrc.2 (by have := hsrc.1; omega)
      injection e with e
      subst e
      rw [Addr.add_lit, hc j (by have := hsrc.1; omega), ← intV_get ys j hj, hu]
    obtain ⟨v', w', hr, h2, h3, h4, h5⟩ := run_append_own_at (P := Try.prog) (w := w) base 22 ty 3 i0 _ 1 8 Try.underlying22 hi hz0 hz1 hz2 rfl (by omega) _ n _ hown.2 ad m c' (intV ys) (by rw [intV_length, hsrc.1]; omega) hnews (intV_one _) (by simp only [maxLen]; omega) (by omega) hb
    obtain ⟨A1, c1, rfl⟩ := own_slice1 h2
    rw [map_own] at h3
    rw [map_own, map_own] at h5
    refine ⟨A1, c1, w', hr, ⟨by rw [List.length_append, hown.1, hsrc.1], ?_⟩, h3, h5⟩
    have e : intV (xs ++ ys) = intV xs ++ intV ys := by simp [intV]
    rw [e]
    exact h2
def InsP8 (base i n : Nat) (A : Option Addr) (xs : List Int) (y : Int) (w : World) (e : Ending) (w' : World) : Prop := ∃ A1 c1, e = .returned (.slice A1 (n + 1) c1) ∧ OwnI w' base A1 (n + 1) c1 (xs.take i ++ [y] ++ xs.drop i) ∧ w.grownBy w' (A.map (·.block)) ∧ (A1.map (·.block) = A.map (·.block) ∨ ∃ g, A1.map (·.block) = some g ∧ w.heap.size ≤ g)
theorem cut_some8 (A : Option Addr) (n c : Nat) (l : Int) (h0 : 0 ≤ l) (h1 : l ≤ n) : ∃ v, ∀ w : World, (Instr.slice 22 (.slice A n c) (some (.int .i64 l)) none none).run Try.prog w = .ok v w := by
  refine ⟨sliced A l.toNat n c 1, fun w => ?_⟩
  rw [run_slice_l (P := Try.prog) (w := w) (t := 22) (ht := Try.underlying22) (kl := .i64) (l := l) (h0 := h0) (h1 := h1), size_ints8]
  rfl
theorem cut_l28 (g n c k : Nat) (hk : k ≤ n) (hc : k < c) (w : World) : (Instr.slice 22 (.slice (some ⟨g, 0, none⟩) n c) (some (.int .i64 (k : Int))) none none).run Try.prog w = .ok (.slice (some ⟨g, k, none⟩) (n - k) (c - k)) w := by
  rw [cut_l8 g n c k hk, if_neg (by omega)]
set_option maxHeartbeats 1000000 in
theorem insert_end8 (A : Option Addr) (n c base vb : Nat) (xs : List Int) (y : Int) (w : World) (h : OwnI w base A n c xs) (hb : base ≤ w.heap.size) (hv : w.heap[vb]? = some (.cells #[.int .i64 y] 3 (0, 0))) (hn : n ≤ 1048576) :
    Calls Try.prog 84 #[.slice A n c, .int .i64 n, .slice (some ⟨vb, 0, none⟩) 1 1] w (InsP8 base n n A xs y w) := by
  have hsrc : Nums w w.heap.size (some ⟨vb, 0, none⟩) 1 [y] := ints_one (by rw [cell_of_row w vb 0 _ _ _ hv]; rfl)
  obtain ⟨A1, c1, w1, hrun, ho, hg, hat⟩ := run_append_ints8 (c' := 1) h hsrc (fun e => by cases e) hb (by omega) 22
  obtain ⟨X, hX⟩ := cut_some8 A n c (n : Int) (by omega) (by omega)
  have HO := Lib.hid (show OwnI w1 base A1 (n + 1) c1 (xs.take n ++ [y] ++ xs.drop n) by
    rw [List.take_of_length_le (by rw [h.1]; exact Nat.le_refl _), List.drop_of_length_le (by rw [h.1]; exact Nat.le_refl _), List.append_nil]
    exact ho)
  have HG := Lib.hid hg
  have HAT := Lib.hid (show A1.map (·.block) = A.map (·.block) ∨ ∃ g, A1.map (·.block) = some g ∧ w.heap.size ≤ g from hat.imp id fun h => ⟨_, h, Nat.le_refl _⟩)
  clear h hv hsrc ho hg hat
  go_enter Try.func84, Try.ntmps84
  go_wp2_with (at_builtin; refine Lib.wpList_append_run _ rfl (.tmp 23) (.tmp 24) 22 22 rfl _ _ rfl rfl _ _ hrun ?_)
  go_ret
  exact ⟨A1, c1, rfl, HO.out, HG.out, HAT.out⟩
set_option maxHeartbeats 2000000 in
theorem insert_room8 (r n c i base vb : Nat) (cur : Array Value) (xs : List Int) (y : Int) (w : World) (hbase : base ≤ r) (hcell : w.heap[r]? = some (.cells cur 3 (0, 0))) (hcm : c ≤ maxLen) (hcs : cur.size = c) (htake : cur.toList.take n = intV xs) (hl : xs.length = n)
    (hv : w.heap[vb]? = some (.cells #[.int .i64 y] 3 (0, 0))) (hne : vb ≠ r) (hi : i < n) (hroom : n + 1 ≤ c) (hn : n ≤ 1048576) :
    Calls Try.prog 84 #[.slice (some ⟨r, 0, none⟩) n c, .int .i64 i, .slice (some ⟨vb, 0, none⟩) 1 1] w (InsP8 base i n (some ⟨r, 0, none⟩) xs y w) := by
  obtain ⟨X, hX⟩ := cut_some8 (some ⟨r, 0, none⟩) n c (i : Int) (by omega) (by omega)
  have hdl : (intV (xs.drop i)).length = n - i := by rw [intV_length, List.length_drop]; omega
  have h1 : ∀ w' : World, (Instr.slice 22 (.slice (some ⟨r, 0, none⟩) n c) none (some (.int .i64 ((n : Int) + 1))) none).run Try.prog w' = .ok (.slice (some ⟨r, 0, none⟩) (n + 1) c) w' := fun w' => cut_h8 r 0 n c (n + 1) hroom w'
  have h2 : ∀ w' : World, (Instr.slice 22 (.slice (some ⟨r, 0, none⟩) (n + 1) c) (some (.int .i64 ((i : Int) + 1))) none none).run Try.prog w' = .ok (.slice (some ⟨r, i + 1, none⟩) (n - i) (c - (i + 1))) w' := fun w' => by
    have := cut_l28 r (n + 1) c (i + 1) (by omega) (by omega) w'
    rw [Nat.add_sub_add_right] at this
    exact this
  have h3 : ∀ w' : World, (Instr.slice 22 (.slice (some ⟨r, 0, none⟩) (n + 1) c) (some (.int .i64 (i : Int))) none none).run Try.prog w' = .ok (.slice (some ⟨r, i, none⟩) (n + 1 - i) (c - i)) w' := fun w' => cut_l28 r (n + 1) c i (by omega) (by omega) w'
  have hov : ∀ lb cb, (callFunc 93 #[.slice (some ⟨vb, 0, none⟩) 1 1, .slice (some ⟨r, i + 1, none⟩) lb cb]).run Try.prog w = .ok (.value (.bool false)) w := fun lb cb => by
    rw [run_callFunc_extern Try.func93 (by kernel_rfl) (by kernel_rfl) (by kernel_rfl) (e := Extern.SlicesOverlaps.overlaps #[22, 22] #[4]) (by kernel_rfl),
      Lib.run_overlaps_apart (P := Try.prog) w 22 4 3 Try.underlying22 1 (fun w => by kernel_rfl) ⟨vb, 0, none⟩ ⟨r, i + 1, none⟩ 1 1 lb cb hne 3 3 1 c (by simp [World.shape?, hv]) (by simp [World.shape?, hcell, hcs]) (by omega) (by simp [World.frozen?, hv]) (by simp [World.frozen?, hv])]
    rfl
  obtain ⟨row1, hrow1⟩ : ∃ row1 : Array Value, row1 = (cur.toList.take (i + 1) ++ intV (xs.drop i) ++ cur.toList.drop (n + 1)).toArray := ⟨_, rfl⟩
  obtain ⟨W1, hW1⟩ : ∃ W1, W1 = w.drew.setRow r row1 := ⟨_, rfl⟩
  have hr1 : row1.size = c := by rw [hrow1]; simp [hdl, hcs]; omega
  have hg1 : W1.heap[r]? = some (.cells row1 3 (0, 0)) := by rw [hW1]; exact setRow_heap w.drew r cur row1 3 _ hcell
  have hcp1 : ∀ ty, (Builtin.copy_ #[22, 22] ty #[.slice (some ⟨r, i + 1, none⟩) (n - i) (c - (i + 1)), .slice (some ⟨r, i, none⟩) (n + 1 - i) (c - i)]).run Try.prog w.drew = .ok (.int .i64 ((n - i : Nat) : Int)) W1 := fun ty => by
    have := run_copy_row (P := Try.prog) w.drew 22 22 ty 3 r (i + 1) (n - i) (c - (i + 1)) ⟨r, i, none⟩ (n + 1 - i) (c - i) cur 3 (intV (xs.drop i)) Try.underlying22 int_size7 hcell (by rw [hdl]; simp only [Nat.min_def]; split <;> omega) (fun j u hu => by
      have hj : j < n - i := by rw [← hdl]; exact (List.getElem?_eq_some_iff.1 hu).1
      rw [Addr.add_lit]
      show w.cell? _ = _
      rw [row_cell hcell hl htake (by omega), ← hu, intV_get _ _ (by rw [List.length_drop]; omega)]
      simp [List.getD, List.getElem?_drop]) (by rw [hdl, hcs]; omega) (intV_one _)
    rw [hdl, show i + 1 + (n - i) = n + 1 by omega, ← hrow1, ← hW1] at this
    exact this
  have hv1 : W1.heap[vb]? = some (.cells #[.int .i64 y] 3 (0, 0)) := by rw [hW1, setRow_other w.drew r vb _ hne]; exact hv
  obtain ⟨row2, hrow2⟩ : ∃ row2 : Array Value, row2 = (row1.toList.take i ++ [Value.int .i64 y] ++ row1.toList.drop (i + 1)).toArray := ⟨_, rfl⟩
  obtain ⟨W2, hW2⟩ : ∃ W2, W2 = W1.setRow r row2 := ⟨_, rfl⟩
  have hcp2 : ∀ ty, (Builtin.copy_ #[22, 22] ty #[.slice (some ⟨r, i, none⟩) (n + 1 - i) (c - i), .slice (some ⟨vb, 0, none⟩) 1 1]).run Try.prog W1 = .ok (.int .i64 1) W2 := fun ty => by
    have := run_copy_row (P := Try.prog) W1 22 22 ty 3 r i (n + 1 - i) (c - i) ⟨vb, 0, none⟩ 1 1 row1 3 [.int .i64 y] Try.underlying22 int_size7 hg1 (by simp only [Nat.min_def, List.length_singleton]; split <;> omega) (fun j u hu => by
      have hj : j < 1 := (List.getElem?_eq_some_iff.1 hu).1
      obtain rfl : j = 0 := by omega
      rw [Addr.add_lit, cell_of_row W1 vb _ _ _ _ hv1]
      exact hu) (by rw [hr1]; simp; omega) (by intro v hv; simp at hv; subst hv; rfl)
    rw [List.length_singleton, ← hrow2, ← hW2] at this
    exact this
  have hr2 : row2.size = c := by rw [hrow2]; simp [hr1]; omega
  have ht2 : row2.toList.take (n + 1) = intV (xs.take i ++ [y] ++ xs.drop i) := by
    have e1 : row1.toList.take i = intV (xs.take i) := by
      rw [hrow1, List.toList_toArray, List.append_assoc, List.take_append_of_le_length (by rw [List.length_take, Array.length_toList]; omega), List.take_take, Nat.min_eq_left (by omega)]
      exact take_of htake (by omega)
    have e2 : row1.toList.drop (i + 1) = intV (xs.drop i) ++ cur.toList.drop (n + 1) := by
      rw [hrow1, List.toList_toArray, List.append_assoc, List.drop_left' (by rw [List.length_take, Array.length_toList]; omega)]
    rw [hrow2, List.toList_toArray, e1, e2]
    have e3 : intV (xs.take i ++ [y] ++ xs.drop i) = intV (xs.take i) ++ [Value.int .i64 y] ++ intV (xs.drop i) := by simp [intV]
    rw [e3, ← List.append_assoc, List.take_left' (by rw [← e3, intV_length]; simp; omega)]
  have HO := Lib.hid (own_close (w := W2) (base := base) (xs := xs.take i ++ [y] ++ xs.drop i) (n := n + 1) (by simp; omega) hbase (by rw [hW2]; exact setRow_heap W1 r row1 row2 3 _ hg1) hroom hcm hr2 ht2)
  have HG : Hid (w.grownBy W2 (some r)) := Lib.hid (by
    have a : w.grownBy W1 (some r) := by
      rw [hW1]
      exact ⟨rfl, rfl, rfl, by simp [World.setRow], fun k hk hne => setRow_other w.drew r k _ (by intro e; subst e; exact hne rfl)⟩
    have b : W1.grownBy W2 (some r) := by
      rw [hW2]
      exact ⟨rfl, rfl, rfl, by simp [World.setRow], fun k hk hne => setRow_other W1 r k _ (by intro e; subst e; exact hne rfl)⟩
    exact a.trans b)
  have q1 : IntKind.i64.wrap ((n : Int) + 1) = (n : Int) + 1 := IntWalk.i64_in _ (by omega)
  have q2 : IntKind.i64.wrap ((i : Int) + 1) = (i : Int) + 1 := IntWalk.i64_in _ (by omega)
  have q3 : ¬ ((i : Int) = (n : Int)) := by omega
  have q4 : (n : Int) + 1 ≤ (c : Int) := by omega
  have q5 : ((i : Int) == (n : Int)) = false := by simp; omega
  have q6 : (i : Int) ≤ (n : Int) := by omega
  clear hdl hrow1 hW1 hr1 hg1 hv1 hrow2 hW2 hr2 ht2 hcell hcs htake hl hv hne hcm
  go_enter Try.func84, Try.ntmps84
  go_wp2_with (simp only [hov])
  go_region_held3 (fun w' => True) (trivial) (fail)
  go_wp2_with fail
  go_ret
  exact ⟨_, _, rfl, HO.out, HG.out, .inl rfl⟩
set_option maxHeartbeats 2000000 in
theorem insert_grow8 (r n c i base vb : Nat) (cur : Array Value) (xs : List Int) (y : Int) (w : World) (hbase : base ≤ r) (hcell : w.heap[r]? = some (.cells cur 3 (0, 0))) (hcs : cur.size = c) (htake : cur.toList.take n = intV xs) (hl : xs.length = n) (hnc : n ≤ c)
    (hv : w.heap[vb]? = some (.cells #[.int .i64 y] 3 (0, 0))) (hi : i < n) (hroom : c < n + 1) (hn : n ≤ 1048576) :
    Calls Try.prog 84 #[.slice (some ⟨r, 0, none⟩) n c, .int .i64 i, .slice (some ⟨vb, 0, none⟩) 1 1] w (InsP8 base i n (some ⟨r, 0, none⟩) xs y w) := by
  obtain ⟨i0, hi0, hz0, hz1, hz2⟩ := info_parts info_int
  have hrs : r < w.heap.size := (Array.getElem?_eq_some_iff.1 hcell).1
  have hvs : vb < w.heap.size := (Array.getElem?_eq_some_iff.1 hv).1
  have hdl : (intV (xs.drop i)).length = n - i := by rw [intV_length, List.length_drop]; omega
  have hti : cur.toList.take i = intV (xs.take i) := take_of htake (by omega)
  have htl : (intV (xs.take i)).length = i := by rw [intV_length, List.length_take]; omega
  obtain ⟨C, hC⟩ : ∃ C, C = grownCap w (n + 1) c 3 := ⟨_, rfl⟩
  have hC1 : n + 1 ≤ C := by rw [hC]; exact grownCap_ge w (n + 1) c 3
  have hC2 : C ≤ maxLen := by rw [hC]; exact grownCap_le_maxLen w (n + 1) c 3 (by unfold maxLen; omega)
  obtain ⟨row0, hrow0⟩ : ∃ row0 : Array Value, row0 = (intV (xs.take i)).toArray ++ Builtin.zeroCells (Value.int .i64 0).cells (n + 1 - i) ++ Builtin.zeroCells (Value.int .i64 0).cells (C - (n + 1)) := ⟨_, rfl⟩
  have hr0 : row0.size = C := by rw [hrow0]; simp [Builtin.zeroCells, Value.cells, htl]; omega
  obtain ⟨g, hg⟩ : ∃ g, g = w.heap.size := ⟨_, rfl⟩
  obtain ⟨W0, hW0⟩ : ∃ W0, W0 = w.drew.alloc (.cells row0 3) := ⟨_, rfl⟩
  have hrz : ∀ ty, (Builtin.append_ #[22, 3] ty #[.slice (some ⟨r, 0, none⟩) i c, .int .i64 ((n : Int) + 1 - (i : Int))]).run Try.prog w = .ok (.slice (some ⟨g, 0, none⟩) (n + 1) C) W0 := fun ty => by
    have hold : (Builtin.firstCells i0.size i (.slice (some ⟨r, 0, none⟩) i c)).run Try.prog w.drew = .ok (intV (xs.take i)).toArray w.drew := by
      rw [hz1]
      exact run_firstCells_some w.drew 1 i ⟨r, 0, none⟩ i c (intV (xs.take i)) (by rw [htl, Nat.mul_one]) (fun j v hj => by
        have hj2 : j < i := by rw [← htl]; exact (List.getElem?_eq_some_iff.1 hj).1
        rw [Addr.add_lit, Nat.zero_add]
        show w.cell? _ = _
        rw [row_cell hcell hl htake (by omega), ← hj, intV_get _ _ (by rw [List.length_take]; omega)]
        simp [List.getD, hj2])
    have h := Lib.run_append_grow_zeros (P := Try.prog) w 22 3 ty 3 i0 _ .i64 .i64 Try.underlying22 Try.underlying3 hi0 hz0 (some ⟨r, 0, none⟩) i c (intV (xs.take i)) hold (n + 1 - i) (by omega) (by omega) (by omega) (by omega) (by rw [hz2]; omega) (by rw [hz2, show i + (n + 1 - i) = n + 1 by omega]; exact growslice_fits hroom (by omega))
    rw [show i + (n + 1 - i) = n + 1 by omega, ← hC, ← hrow0, ← hW0, ← hg, show ((n + 1 - i : Nat) : Int) = (n : Int) + 1 - (i : Int) by omega] at h
    exact h
  have hg0 : W0.heap[g]? = some (.cells row0 3 (0, 0)) := by rw [hW0, hg]; exact heap_alloc_new w.drew _
  have hold0 : ∀ x, x < w.heap.size → W0.heap[x]? = w.heap[x]? := fun x hx => by rw [hW0]; exact heap_alloc_old w.drew _ hx
  have h1 : ∀ w' : World, (Instr.slice 22 (.slice (some ⟨r, 0, none⟩) n c) none (some (.int .i64 (i : Int))) none).run Try.prog w' = .ok (.slice (some ⟨r, 0, none⟩) i c) w' := fun w' => cut_h8 r 0 n c i (by omega) w'
  have h2 : ∀ w' : World, (Instr.slice 22 (.slice (some ⟨g, 0, none⟩) (n + 1) C) (some (.int .i64 ((i : Int) + 1))) none none).run Try.prog w' = .ok (.slice (some ⟨g, i + 1, none⟩) (n - i) (C - (i + 1))) w' := fun w' => by
    have := cut_l28 g (n + 1) C (i + 1) (by omega) (by omega) w'
    rw [Nat.add_sub_add_right] at this
    exact this
  have h3 : ∀ w' : World, (Instr.slice 22 (.slice (some ⟨g, 0, none⟩) (n + 1) C) (some (.int .i64 (i : Int))) none none).run Try.prog w' = .ok (.slice (some ⟨g, i, none⟩) (n + 1 - i) (C - i)) w' := fun w' => cut_l28 g (n + 1) C i (by omega) (by omega) w'
  have h4 : ∀ w' : World, (Instr.slice 22 (.slice (some ⟨r, 0, none⟩) n c) (some (.int .i64 (i : Int))) none none).run Try.prog w' = .ok (.slice (some ⟨r, i, none⟩) (n - i) (c - i)) w' := fun w' => cut_l28 r n c i (by omega) (by omega) w'
  obtain ⟨row1, hrow1⟩ : ∃ row1 : Array Value, row1 = (row0.toList.take i ++ [Value.int .i64 y] ++ row0.toList.drop (i + 1)).toArray := ⟨_, rfl⟩
  obtain ⟨W1, hW1⟩ : ∃ W1, W1 = W0.setRow g row1 := ⟨_, rfl⟩
  have hcp1 : ∀ ty, (Builtin.copy_ #[22, 22] ty #[.slice (some ⟨g, i, none⟩) (n + 1 - i) (C - i), .slice (some ⟨vb, 0, none⟩) 1 1]).run Try.prog W0 = .ok (.int .i64 1) W1 := fun ty => by
    have := run_copy_row (P := Try.prog) W0 22 22 ty 3 g i (n + 1 - i) (C - i) ⟨vb, 0, none⟩ 1 1 row0 3 [.int .i64 y] Try.underlying22 int_size7 hg0 (by simp only [Nat.min_def, List.length_singleton]; split <;> omega) (fun j u hu => by
      have hj : j < 1 := (List.getElem?_eq_some_iff.1 hu).1
      obtain rfl : j = 0 := by omega
      rw [Addr.add_lit, cell_of_row W0 vb _ _ _ _ ((hold0 vb hvs).trans hv)]
      exact hu) (by rw [hr0]; simp; omega) (by intro v hv; simp at hv; subst hv; rfl)
    rw [List.length_singleton, ← hrow1, ← hW1] at this
    exact this
  have hr1 : row1.size = C := by rw [hrow1]; simp [hr0]; omega
  have hg1 : W1.heap[g]? = some (.cells row1 3 (0, 0)) := by rw [hW1]; exact setRow_heap W0 g row0 row1 3 _ hg0
  have hcell1 : W1.heap[r]? = some (.cells cur 3 (0, 0)) := by rw [hW1, setRow_other W0 g r _ (by omega), hold0 r hrs]; exact hcell
  obtain ⟨row2, hrow2⟩ : ∃ row2 : Array Value, row2 = (row1.toList.take (i + 1) ++ intV (xs.drop i) ++ row1.toList.drop (n + 1)).toArray := ⟨_, rfl⟩
  obtain ⟨W2, hW2⟩ : ∃ W2, W2 = W1.drew.setRow g row2 := ⟨_, rfl⟩
  have hcp2 : ∀ ty, (Builtin.copy_ #[22, 22] ty #[.slice (some ⟨g, i + 1, none⟩) (n - i) (C - (i + 1)), .slice (some ⟨r, i, none⟩) (n - i) (c - i)]).run Try.prog W1.drew = .ok (.int .i64 ((n - i : Nat) : Int)) W2 := fun ty => by
    have := run_copy_row (P := Try.prog) W1.drew 22 22 ty 3 g (i + 1) (n - i) (C - (i + 1)) ⟨r, i, none⟩ (n - i) (c - i) row1 3 (intV (xs.drop i)) Try.underlying22 int_size7 hg1 (by rw [hdl]; simp only [Nat.min_def]; split <;> omega) (fun j u hu => by
      have hj : j < n - i := by rw [← hdl]; exact (List.getElem?_eq_some_iff.1 hu).1
      rw [Addr.add_lit]
      show W1.cell? _ = _
      rw [row_cell hcell1 hl htake (by omega), ← hu, intV_get _ _ (by rw [List.length_drop]; omega)]
      simp [List.getD, List.getElem?_drop]) (by rw [hdl, hr1]; omega) (intV_one _)
    rw [hdl, show i + 1 + (n - i) = n + 1 by omega, ← hrow2, ← hW2] at this
    exact this
  have hr2 : row2.size = C := by rw [hrow2]; simp [hdl, hr1]; omega
  have ht2 : row2.toList.take (n + 1) = intV (xs.take i ++ [y] ++ xs.drop i) := by
    have e0 : row0.toList.take i = intV (xs.take i) := by
      rw [hrow0, Array.toList_append, Array.toList_append, List.append_assoc, List.toList_toArray, List.take_left' htl]
    have e1 : row1.toList.take (i + 1) = intV (xs.take i) ++ [Value.int .i64 y] := by
      rw [hrow1, List.toList_toArray, e0, List.take_left' (by rw [List.length_append, htl]; rfl)]
    have e3 : intV (xs.take i ++ [y] ++ xs.drop i) = intV (xs.take i) ++ [Value.int .i64 y] ++ intV (xs.drop i) := by simp [intV]
    rw [hrow2, List.toList_toArray, e1, e3, List.take_left' (by rw [← e3, intV_length]; simp; omega)]
  have HO := Lib.hid (own_close (w := W2) (base := base) (xs := xs.take i ++ [y] ++ xs.drop i) (n := n + 1) (by simp; omega) (show base ≤ g by omega) (by rw [hW2]; exact setRow_heap W1.drew g row1 row2 3 _ hg1) hC1 hC2 hr2 ht2)
  have HG : Hid (w.grownBy W2 (some r)) := Lib.hid (by
    have a : w.grownBy W0 none := by rw [hW0]; exact grown_alloc (grown_drew (grown_refl _ _)) _
    have b : W0.grownBy W1 (some g) := by
      rw [hW1]
      exact ⟨rfl, rfl, rfl, by simp [World.setRow], fun k hk hne => setRow_other W0 g k _ (by intro e; subst e; exact hne rfl)⟩
    have d : W1.grownBy W2 (some g) := by
      rw [hW2]
      exact ⟨rfl, rfl, rfl, by simp [World.setRow], fun k hk hne => setRow_other W1.drew g k _ (by intro e; subst e; exact hne rfl)⟩
    exact (grown_join a (b.trans d) (.inr fun x hx => by injection hx with hx; omega)).but _)
  have q1 : IntKind.i64.wrap ((n : Int) + 1) = (n : Int) + 1 := IntWalk.i64_in _ (by omega)
  have q2 : IntKind.i64.wrap ((i : Int) + 1) = (i : Int) + 1 := IntWalk.i64_in _ (by omega)
  have q3 : ¬ ((i : Int) = (n : Int)) := by omega
  have q4 : (c : Int) < (n : Int) + 1 := by omega
  have q5 : ((i : Int) == (n : Int)) = false := by simp; omega
  have q6 : (i : Int) ≤ (n : Int) := by omega
  have q7 : IntKind.i64.wrap ((n : Int) + 1 - (i : Int)) = (n : Int) + 1 - (i : Int) := IntWalk.i64_in _ (by omega)
  have HGE := Lib.hid (show w.heap.size ≤ g by omega)
  clear hdl hti htl hC hrow0 hW0 hrow1 hW1 hr0 hr1 hg0 hg1 hold0 hcell1 hrow2 hW2 hr2 ht2 hcell hcs htake hl hv hg hrs hvs hC1 hC2 hnc hi0 hz0 hz1 hz2
  go_enter Try.func84, Try.ntmps84
  go_wp2_with (at_builtin; refine Lib.wpList_append_run _ rfl (.tmp 34) (.tmp 39) 22 3 rfl _ _ rfl rfl _ _ (hrz _) ?_)
  go_region_held3 (fun w' => True) (trivial) (fail)
  go_wp2_with fail
  go_ret
  exact ⟨_, _, rfl, HO.out, HG.out, .inr ⟨g, rfl, HGE.out⟩⟩
theorem own8_insert (A : Option Addr) (n c i base vb : Nat) (xs : List Int) (y : Int) (w : World) (h : OwnI w base A n c xs) (hb : base ≤ w.heap.size) (hv : w.heap[vb]? = some (.cells #[.int .i64 y] 3 (0, 0))) (hne : A.map (·.block) ≠ some vb) (hi : i ≤ n) (hn : n ≤ 1048576) :
    Calls Try.prog 84 #[.slice A n c, .int .i64 i, .slice (some ⟨vb, 0, none⟩) 1 1] w (InsP8 base i n A xs y w) := by
  by_cases he : i = n
  · subst he
    exact insert_end8 A i c base vb xs y w h hb hv hn
  · obtain ⟨r, cur, rfl, hbase, hcell, hnc, hcm, hcs, htake⟩ := own_open h (by omega)
    by_cases hroom : n + 1 ≤ c
    · exact insert_room8 r n c i base vb cur xs y w hbase hcell hcm hcs htake h.1 hv (fun e => hne (by rw [e]; rfl)) (by omega) hroom hn
    · exact insert_grow8 r n c i base vb cur xs y w hbase hcell hcs htake h.1 hnc hv (by omega) (by omega) hn
end Go.Proofs.Ytkpfhjjojchdlaa
