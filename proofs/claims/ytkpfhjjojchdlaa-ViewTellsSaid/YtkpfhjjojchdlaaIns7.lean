/-
  Layer 7, the program's own: slices.Insert of one number at Shape; With.
-/
import Derived.Test.YtkpfhjjojchdlaaDel7
import Derived.Lib.AppendZerosOnto
import Derived.Lib.Overlaps
import Derived.Laws.Externs
namespace Go.Proofs.Ytkpfhjjojchdlaa
open Go.ChangeShapes Go.WideShapes Go.ChangeAt Go.RowKit
set_option linter.unusedVariables false
set_option maxRecDepth 100000

theorem own_open {w : World} {base n c : Nat} {A : Option Addr} {xs : List Int} (h : OwnI w base A n c xs) (h0 : 0 < n) :
    ∃ g cur, A = some ⟨g, 0, none⟩ ∧ base ≤ g ∧ w.heap[g]? = some (.cells cur 3 (0, 0)) ∧ n ≤ c ∧ c ≤ maxLen ∧ cur.size = c ∧ cur.toList.take n = intV xs := by
  obtain ⟨hl, _, hrow⟩ := h
  obtain ⟨e, h1⟩ | ⟨g', c', cur, e, hbase, hcell, hnc, hcm, hcs, htake⟩ := hrow
  · omega
  · injection e with e1 _ e3
    subst e3
    rw [Nat.mul_one] at hcs htake
    exact ⟨g', cur, e1, hbase, hcell, hnc, hcm, hcs, htake⟩
theorem own_close {w : World} {base n c g : Nat} {cur : Array Value} {xs : List Int} (hl : xs.length = n) (hb : base ≤ g) (hg : w.heap[g]? = some (.cells cur 3 (0, 0))) (hnc : n ≤ c) (hcm : c ≤ maxLen) (hcs : cur.size = c) (ht : cur.toList.take n = intV xs) : OwnI w base (some ⟨g, 0, none⟩) n c xs :=
  ⟨hl, by rw [intV_length, hl, Nat.mul_one], .inr ⟨g, c, cur, rfl, hb, hg, hnc, hcm, by rw [hcs, Nat.mul_one], by rw [Nat.mul_one]; exact ht⟩⟩
theorem cut_some (A : Option Addr) (n c : Nat) (l : Int) (h0 : 0 ≤ l) (h1 : l ≤ n) : ∃ v, ∀ w : World, (Instr.slice 27 (.slice A n c) (some (.int .i64 l)) none none).run Try.prog w = .ok v w := by
  refine ⟨sliced A l.toNat n c 1, fun w => ?_⟩
  rw [run_slice_l (P := Try.prog) (w := w) (t := 27) (ht := Try.underlying27) (kl := .i64) (l := l) (h0 := h0) (h1 := h1), size_shape]
  rfl
theorem cut_l2 (g n c k : Nat) (hk : k ≤ n) (hc : k < c) (w : World) : (Instr.slice 27 (.slice (some ⟨g, 0, none⟩) n c) (some (.int .i64 (k : Int))) none none).run Try.prog w = .ok (.slice (some ⟨g, k, none⟩) (n - k) (c - k)) w := by
  rw [cut_l g n c k hk, if_neg (by omega)]
/-- what the cells of a row are that holds these numbers. -/
theorem row_cell {w : World} {g : Nat} {cur : Array Value} {xs : List Int} {n : Nat} (hg : w.heap[g]? = some (.cells cur 3 (0, 0))) (hl : xs.length = n) (ht : cur.toList.take n = intV xs) {j : Nat} (hj : j < n) : w.cell? ⟨g, j, none⟩ = some (.int .i64 (xs.getD j 0)) := by
  have h1 : cur.toList[j]? = (intV xs)[j]? := by rw [← ht, List.getElem?_take_of_lt hj]
  rw [cell_of_row w g j _ _ _ hg, ← Array.getElem?_toList, h1, intV_get xs j (by omega)]
theorem take_of {cur : List Value} {xs : List Int} {n i : Nat} (ht : cur.take n = intV xs) (hi : i ≤ n) : cur.take i = intV (xs.take i) := by
  rw [show cur.take i = (cur.take n).take i by rw [List.take_take, Nat.min_eq_left hi], ht]
  simp [intV]
def InsP (base i n : Nat) (A : Option Addr) (xs : List Int) (y : Int) (w : World) (e : Ending) (w' : World) : Prop := ∃ A1 c1, e = .returned (.slice A1 (n + 1) c1) ∧ OwnI w' base A1 (n + 1) c1 (xs.take i ++ [y] ++ xs.drop i) ∧ w.grownBy w' (A.map (·.block))
set_option maxHeartbeats 1000000 in
theorem insert_end (A : Option Addr) (n c base vb : Nat) (xs : List Int) (y : Int) (w : World) (h : OwnI w base A n c xs) (hb : base ≤ w.heap.size) (hv : w.heap[vb]? = some (.cells #[.int .i64 y] 3 (0, 0))) (hn : n ≤ 1048576) :
    Calls Try.prog 92 #[.slice A n c, .int .i64 n, .slice (some ⟨vb, 0, none⟩) 1 1] w (InsP base n n A xs y w) := by
  have hsrc : Nums w w.heap.size (some ⟨vb, 0, none⟩) 1 [y] := ints_one (by rw [cell_of_row w vb 0 _ _ _ hv]; rfl)
  obtain ⟨A1, c1, w1, hrun, ho, hg⟩ := run_append_shape (u := 22) (c' := 1) Try.underlying22 h hsrc (fun e => by cases e) hb (by omega) 27
  obtain ⟨X, hX⟩ := cut_some A n c (n : Int) (by omega) (by omega)
  have HO := Lib.hid (show OwnI w1 base A1 (n + 1) c1 (xs.take n ++ [y] ++ xs.drop n) by
    rw [List.take_of_length_le (by rw [h.1]; exact Nat.le_refl _), List.drop_of_length_le (by rw [h.1]; exact Nat.le_refl _), List.append_nil]
    exact ho)
  have HG := Lib.hid hg
  clear h hv hsrc ho hg
  go_enter Try.func92, Try.ntmps92
  go_wp2_with (at_builtin; refine Lib.wpList_append_run _ rfl (.tmp 23) (.tmp 24) 27 22 rfl _ _ rfl rfl _ _ hrun ?_)
  go_ret
  exact ⟨A1, c1, rfl, HO.out, HG.out⟩
set_option maxHeartbeats 2000000 in
theorem insert_room (r n c i base vb : Nat) (cur : Array Value) (xs : List Int) (y : Int) (w : World) (hbase : base ≤ r) (hcell : w.heap[r]? = some (.cells cur 3 (0, 0))) (hcm : c ≤ maxLen) (hcs : cur.size = c) (htake : cur.toList.take n = intV xs) (hl : xs.length = n)
    (hv : w.heap[vb]? = some (.cells #[.int .i64 y] 3 (0, 0))) (hne : vb ≠ r) (hi : i < n) (hroom : n + 1 ≤ c) (hn : n ≤ 1048576) :
    Calls Try.prog 92 #[.slice (some ⟨r, 0, none⟩) n c, .int .i64 i, .slice (some ⟨vb, 0, none⟩) 1 1] w (InsP base i n (some ⟨r, 0, none⟩) xs y w) := by
  obtain ⟨X, hX⟩ := cut_some (some ⟨r, 0, none⟩) n c (i : Int) (by omega) (by omega)
  have hdl : (intV (xs.drop i)).length = n - i := by rw [intV_length, List.length_drop]; omega
  have h1 : ∀ w' : World, (Instr.slice 27 (.slice (some ⟨r, 0, none⟩) n c) none (some (.int .i64 ((n : Int) + 1))) none).run Try.prog w' = .ok (.slice (some ⟨r, 0, none⟩) (n + 1) c) w' := fun w' => cut_h r 0 n c (n + 1) hroom w'
  have h2 : ∀ w' : World, (Instr.slice 27 (.slice (some ⟨r, 0, none⟩) (n + 1) c) (some (.int .i64 ((i : Int) + 1))) none none).run Try.prog w' = .ok (.slice (some ⟨r, i + 1, none⟩) (n - i) (c - (i + 1))) w' := fun w' => by
    have := cut_l2 r (n + 1) c (i + 1) (by omega) (by omega) w'
    rw [Nat.add_sub_add_right] at this
    exact this
  have h3 : ∀ w' : World, (Instr.slice 27 (.slice (some ⟨r, 0, none⟩) (n + 1) c) (some (.int .i64 (i : Int))) none none).run Try.prog w' = .ok (.slice (some ⟨r, i, none⟩) (n + 1 - i) (c - i)) w' := fun w' => cut_l2 r (n + 1) c i (by omega) (by omega) w'
  have hov : ∀ lb cb, (callFunc 93 #[.slice (some ⟨vb, 0, none⟩) 1 1, .slice (some ⟨r, i + 1, none⟩) lb cb]).run Try.prog w = .ok (.value (.bool false)) w := fun lb cb => by
    rw [run_callFunc_extern Try.func93 (by kernel_rfl) (by kernel_rfl) (by kernel_rfl) (e := Extern.SlicesOverlaps.overlaps #[22, 22] #[4]) (by kernel_rfl),
      Lib.run_overlaps_apart (P := Try.prog) w 22 4 3 Try.underlying22 1 (fun w => by kernel_rfl) ⟨vb, 0, none⟩ ⟨r, i + 1, none⟩ 1 1 lb cb hne 3 3 1 c (by simp [World.shape?, hv]) (by simp [World.shape?, hcell, hcs]) (by omega) (by simp [World.frozen?, hv]) (by simp [World.frozen?, hv])]
    rfl
  obtain ⟨row1, hrow1⟩ : ∃ row1 : Array Value, row1 = (cur.toList.take (i + 1) ++ intV (xs.drop i) ++ cur.toList.drop (n + 1)).toArray := ⟨_, rfl⟩
  obtain ⟨W1, hW1⟩ : ∃ W1, W1 = w.drew.setRow r row1 := ⟨_, rfl⟩
  have hr1 : row1.size = c := by rw [hrow1]; simp [hdl, hcs]; omega
  have hg1 : W1.heap[r]? = some (.cells row1 3 (0, 0)) := by rw [hW1]; exact setRow_heap w.drew r cur row1 3 _ hcell
  have hcp1 : ∀ ty, (Builtin.copy_ #[27, 27] ty #[.slice (some ⟨r, i + 1, none⟩) (n - i) (c - (i + 1)), .slice (some ⟨r, i, none⟩) (n + 1 - i) (c - i)]).run Try.prog w.drew = .ok (.int .i64 ((n - i : Nat) : Int)) W1 := fun ty => by
    have := run_copy_row (P := Try.prog) w.drew 27 27 ty 3 r (i + 1) (n - i) (c - (i + 1)) ⟨r, i, none⟩ (n + 1 - i) (c - i) cur 3 (intV (xs.drop i)) Try.underlying27 int_size7 hcell (by rw [hdl]; simp only [Nat.min_def]; split <;> omega) (fun j u hu => by
      have hj : j < n - i := by rw [← hdl]; exact (List.getElem?_eq_some_iff.1 hu).1
      rw [Addr.add_lit]
      show w.cell? _ = _
      rw [row_cell hcell hl htake (by omega), ← hu, intV_get _ _ (by rw [List.length_drop]; omega)]
      simp [List.getD, List.getElem?_drop]) (by rw [hdl, hcs]; omega) (intV_one _)
    rw [hdl, show i + 1 + (n - i) = n + 1 by omega, ← hrow1, ← hW1] at this
    exact this
  have hv1 : W1.heap[vb]? = some (.cells #[.int .i64 y] 3 (0, 0)) := by rw [hW1, setRow_other w.drew r vb _ hne]; exact hv
  obtain ⟨row2, hrow2⟩ : ∃ row2 : Array Value, row2 = (row1.toList.take i ++ [Value.int .i64 y] ++ row1.toList.drop (i + 1)).toArray := ⟨_, rfl⟩
  obtain ⟨W2, hW2⟩ : ∃ W2, W2 = W1.setRow r row2 := ⟨_, rfl⟩
  have hcp2 : ∀ ty, (Builtin.copy_ #[27, 22] ty #[.slice (some ⟨r, i, none⟩) (n + 1 - i) (c - i), .slice (some ⟨vb, 0, none⟩) 1 1]).run Try.prog W1 = .ok (.int .i64 1) W2 := fun ty => by
    have := run_copy_row (P := Try.prog) W1 27 22 ty 3 r i (n + 1 - i) (c - i) ⟨vb, 0, none⟩ 1 1 row1 3 [.int .i64 y] Try.underlying27 int_size7 hg1 (by simp only [Nat.min_def, List.length_singleton]; split <;> omega) (fun j u hu => by
      have hj : j < 1 := (List.getElem?_eq_some_iff.1 hu).1
      obtain rfl : j = 0 := by omega
      rw [Addr.add_lit, cell_of_row W1 vb _ _ _ _ hv1]
      exact hu) (by rw [hr1]; simp; omega) (by intro v hv; simp at hv; subst hv; rfl)
    rw [List.length_singleton, ← hrow2, ← hW2] at this
    exact this
  have hr2 : row2.size = c := by rw [hrow2]; simp [hr1]; omega
  have ht2 : row2.toList.take (n + 1) = intV (xs.take i ++ [y] ++ xs.drop i) := by
    have e1 : row1.toList.take i = intV (xs.take i) := by
      rw [hrow1, List.toList_toArray, List.append_assoc, List.take_append_of_le_length (by rw [List.length_take, Array.length_toList]; omega), List.take_take, Nat.min_eq_left (by omega)]
      exact take_of htake (by omega)
    have e2 : row1.toList.drop (i + 1) = intV (xs.drop i) ++ cur.toList.drop (n + 1) := by
      rw [hrow1, List.toList_toArray, List.append_assoc, List.drop_left' (by rw [List.length_take, Array.length_toList]; omega)]
    rw [hrow2, List.toList_toArray, e1, e2]
    have e3 : intV (xs.take i ++ [y] ++ xs.drop i) = intV (xs.take i) ++ [Value.int .i64 y] ++ intV (xs.drop i) := by simp [intV]
    rw [e3, ← List.append_assoc, List.take_left' (by rw [← e3, intV_length]; simp; omega)]
  have HO := Lib.hid (own_close (w := W2) (base := base) (xs := xs.take i ++ [y] ++ xs.drop i) (n := n + 1) (by simp; omega) hbase (by rw [hW2]; exact setRow_heap W1 r row1 row2 3 _ hg1) hroom hcm hr2 ht2)
  have HG : Hid (w.grownBy W2 (some r)) := Lib.hid (by
    have a : w.grownBy W1 (some r) := by
      rw [hW1]
      exact ⟨rfl, rfl, rfl, by simp [World.setRow], fun k hk hne => setRow_other w.drew r k _ (by intro e; subst e; exact hne rfl)⟩
    have b : W1.grownBy W2 (some r) := by
      rw [hW2]
      exact ⟨rfl, rfl, rfl, by simp [World.setRow], fun k hk hne => setRow_other W1 r k _ (by intro e; subst e; exact hne rfl)⟩
    exact a.trans b)
  have q1 : IntKind.i64.wrap ((n : Int) + 1) = (n : Int) + 1 := IntWalk.i64_in _ (by omega)
  have q2 : IntKind.i64.wrap ((i : Int) + 1) = (i : Int) + 1 := IntWalk.i64_in _ (by omega)
  have q3 : ¬ ((i : Int) = (n : Int)) := by omega
  have q4 : (n : Int) + 1 ≤ (c : Int) := by omega
  have q5 : ((i : Int) == (n : Int)) = false := by simp; omega
  have q6 : (i : Int) ≤ (n : Int) := by omega
  clear hdl hrow1 hW1 hr1 hg1 hv1 hrow2 hW2 hr2 ht2 hcell hcs htake hl hv hne hcm
  go_enter Try.func92, Try.ntmps92
  go_wp2_with (simp only [hov])
  go_region_held3 (fun w' => True) (trivial) (fail)
  go_wp2_with fail
  go_ret
  exact ⟨_, _, rfl, HO.out, HG.out⟩
set_option maxHeartbeats 2000000 in
theorem insert_grow (r n c i base vb : Nat) (cur : Array Value) (xs : List Int) (y : Int) (w : World) (hbase : base ≤ r) (hcell : w.heap[r]? = some (.cells cur 3 (0, 0))) (hcs : cur.size = c) (htake : cur.toList.take n = intV xs) (hl : xs.length = n) (hnc : n ≤ c)
    (hv : w.heap[vb]? = some (.cells #[.int .i64 y] 3 (0, 0))) (hi : i < n) (hroom : c < n + 1) (hn : n ≤ 1048576) :
    Calls Try.prog 92 #[.slice (some ⟨r, 0, none⟩) n c, .int .i64 i, .slice (some ⟨vb, 0, none⟩) 1 1] w (InsP base i n (some ⟨r, 0, none⟩) xs y w) := by
  obtain ⟨i0, hi0, hz0, hz1, hz2⟩ := info_parts info_int
  have hrs : r < w.heap.size := (Array.getElem?_eq_some_iff.1 hcell).1
  have hvs : vb < w.heap.size := (Array.getElem?_eq_some_iff.1 hv).1
  have hdl : (intV (xs.drop i)).length = n - i := by rw [intV_length, List.length_drop]; omega
  have hti : cur.toList.take i = intV (xs.take i) := take_of htake (by omega)
  have htl : (intV (xs.take i)).length = i := by rw [intV_length, List.length_take]; omega
  obtain ⟨C, hC⟩ : ∃ C, C = grownCap w (n + 1) c 3 := ⟨_, rfl⟩
  have hC1 : n + 1 ≤ C := by rw [hC]; exact grownCap_ge w (n + 1) c 3
  have hC2 : C ≤ maxLen := by rw [hC]; exact grownCap_le_maxLen w (n + 1) c 3 (by unfold maxLen; omega)
  obtain ⟨row0, hrow0⟩ : ∃ row0 : Array Value, row0 = (intV (xs.take i)).toArray ++ Builtin.zeroCells (Value.int .i64 0).cells (n + 1 - i) ++ Builtin.zeroCells (Value.int .i64 0).cells (C - (n + 1)) := ⟨_, rfl⟩
  have hr0 : row0.size = C := by rw [hrow0]; simp [Builtin.zeroCells, Value.cells, htl]; omega
  obtain ⟨g, hg⟩ : ∃ g, g = w.heap.size := ⟨_, rfl⟩
  obtain ⟨W0, hW0⟩ : ∃ W0, W0 = w.drew.alloc (.cells row0 3) := ⟨_, rfl⟩
  have hrz : ∀ ty, (Builtin.append_ #[27, 3] ty #[.slice (some ⟨r, 0, none⟩) i c, .int .i64 ((n : Int) + 1 - (i : Int))]).run Try.prog w = .ok (.slice (some ⟨g, 0, none⟩) (n + 1) C) W0 := fun ty => by
    have hold : (Builtin.firstCells i0.size i (.slice (some ⟨r, 0, none⟩) i c)).run Try.prog w.drew = .ok (intV (xs.take i)).toArray w.drew := by
      rw [hz1]
      exact run_firstCells_some w.drew 1 i ⟨r, 0, none⟩ i c (intV (xs.take i)) (by rw [htl, Nat.mul_one]) (fun j v hj => by
        have hj2 : j < i := by rw [← htl]; exact (List.getElem?_eq_some_iff.1 hj).1
        rw [Addr.add_lit, Nat.zero_add]
        show w.cell? _ = _
        rw [row_cell hcell hl htake (by omega), ← hj, intV_get _ _ (by rw [List.length_take]; omega)]
        simp [List.getD, hj2])
    have h := Lib.run_append_grow_zeros (P := Try.prog) w 27 3 ty 3 i0 _ .i64 .i64 Try.underlying27 Try.underlying3 hi0 hz0 (some ⟨r, 0, none⟩) i c (intV (xs.take i)) hold (n + 1 - i) (by omega) (by omega) (by omega) (by omega) (by rw [hz2]; omega) (by rw [hz2, show i + (n + 1 - i) = n + 1 by omega]; exact growslice_fits hroom (by omega))
    rw [show i + (n + 1 - i) = n + 1 by omega, ← hC, ← hrow0, ← hW0, ← hg, show ((n + 1 - i : Nat) : Int) = (n : Int) + 1 - (i : Int) by omega] at h
    exact h
  have hg0 : W0.heap[g]? = some (.cells row0 3 (0, 0)) := by rw [hW0, hg]; exact heap_alloc_new w.drew _
  have hold0 : ∀ x, x < w.heap.size → W0.heap[x]? = w.heap[x]? := fun x hx => by rw [hW0]; exact heap_alloc_old w.drew _ hx
  have h1 : ∀ w' : World, (Instr.slice 27 (.slice (some ⟨r, 0, none⟩) n c) none (some (.int .i64 (i : Int))) none).run Try.prog w' = .ok (.slice (some ⟨r, 0, none⟩) i c) w' := fun w' => cut_h r 0 n c i (by omega) w'
  have h2 : ∀ w' : World, (Instr.slice 27 (.slice (some ⟨g, 0, none⟩) (n + 1) C) (some (.int .i64 ((i : Int) + 1))) none none).run Try.prog w' = .ok (.slice (some ⟨g, i + 1, none⟩) (n - i) (C - (i + 1))) w' := fun w' => by
    have := cut_l2 g (n + 1) C (i + 1) (by omega) (by omega) w'
    rw [Nat.add_sub_add_right] at this
    exact this
  have h3 : ∀ w' : World, (Instr.slice 27 (.slice (some ⟨g, 0, none⟩) (n + 1) C) (some (.int .i64 (i : Int))) none none).run Try.prog w' = .ok (.slice (some ⟨g, i, none⟩) (n + 1 - i) (C - i)) w' := fun w' => cut_l2 g (n + 1) C i (by omega) (by omega) w'
  have h4 : ∀ w' : World, (Instr.slice 27 (.slice (some ⟨r, 0, none⟩) n c) (some (.int .i64 (i : Int))) none none).run Try.prog w' = .ok (.slice (some ⟨r, i, none⟩) (n - i) (c - i)) w' := fun w' => cut_l2 r n c i (by omega) (by omega) w'
  obtain ⟨row1, hrow1⟩ : ∃ row1 : Array Value, row1 = (row0.toList.take i ++ [Value.int .i64 y] ++ row0.toList.drop (i + 1)).toArray := ⟨_, rfl⟩
  obtain ⟨W1, hW1⟩ : ∃ W1, W1 = W0.setRow g row1 := ⟨_, rfl⟩
  have hcp1 : ∀ ty, (Builtin.copy_ #[27, 22] ty #[.slice (some ⟨g, i, none⟩) (n + 1 - i) (C - i), .slice (some ⟨vb, 0, none⟩) 1 1]).run Try.prog W0 = .ok (.int .i64 1) W1 := fun ty => by
    have := run_copy_row (P := Try.prog) W0 27 22 ty 3 g i (n + 1 - i) (C - i) ⟨vb, 0, none⟩ 1 1 row0 3 [.int .i64 y] Try.underlying27 int_size7 hg0 (by simp only [Nat.min_def, List.length_singleton]; split <;> omega) (fun j u hu => by
      have hj : j < 1 := (List.getElem?_eq_some_iff.1 hu).1
      obtain rfl : j = 0 := by omega
      rw [Addr.add_lit, cell_of_row W0 vb _ _ _ _ ((hold0 vb hvs).trans hv)]
      exact hu) (by rw [hr0]; simp; omega) (by intro v hv; simp at hv; subst hv; rfl)
    rw [List.length_singleton, ← hrow1, ← hW1] at this
    exact this
  have hr1 : row1.size = C := by rw [hrow1]; simp [hr0]; omega
  have hg1 : W1.heap[g]? = some (.cells row1 3 (0, 0)) := by rw [hW1]; exact setRow_heap W0 g row0 row1 3 _ hg0
  have hcell1 : W1.heap[r]? = some (.cells cur 3 (0, 0)) := by rw [hW1, setRow_other W0 g r _ (by omega), hold0 r hrs]; exact hcell
  obtain ⟨row2, hrow2⟩ : ∃ row2 : Array Value, row2 = (row1.toList.take (i + 1) ++ intV (xs.drop i) ++ row1.toList.drop (n + 1)).toArray := ⟨_, rfl⟩
  obtain ⟨W2, hW2⟩ : ∃ W2, W2 = W1.drew.setRow g row2 := ⟨_, rfl⟩
  have hcp2 : ∀ ty, (Builtin.copy_ #[27, 27] ty #[.slice (some ⟨g, i + 1, none⟩) (n - i) (C - (i + 1)), .slice (some ⟨r, i, none⟩) (n - i) (c - i)]).run Try.prog W1.drew = .ok (.int .i64 ((n - i : Nat) : Int)) W2 := fun ty => by
    have := run_copy_row (P := Try.prog) W1.drew 27 27 ty 3 g (i + 1) (n - i) (C - (i + 1)) ⟨r, i, none⟩ (n - i) (c - i) row1 3 (intV (xs.drop i)) Try.underlying27 int_size7 hg1 (by rw [hdl]; simp only [Nat.min_def]; split <;> omega) (fun j u hu => by
      have hj : j < n - i := by rw [← hdl]; exact (List.getElem?_eq_some_iff.1 hu).1
      rw [Addr.add_lit]
      show W1.cell? _ = _
      rw [row_cell hcell1 hl htake (by omega), ← hu, intV_get _ _ (by rw [List.length_drop]; omega)]
      simp [List.getD, List.getElem?_drop]) (by rw [hdl, hr1]; omega) (intV_one _)
    rw [hdl, show i + 1 + (n - i) = n + 1 by omega, ← hrow2, ← hW2] at this
    exact this
  have hr2 : row2.size = C := by rw [hrow2]; simp [hdl, hr1]; omega
  have ht2 : row2.toList.take (n + 1) = intV (xs.take i ++ [y] ++ xs.drop i) := by
    have e0 : row0.toList.take i = intV (xs.take i) := by
      rw [hrow0, Array.toList_append, Array.toList_append, List.append_assoc, List.toList_toArray, List.take_left' htl]
    have e1 : row1.toList.take (i + 1) = intV (xs.take i) ++ [Value.int .i64 y] := by
      rw [hrow1, List.toList_toArray, e0, List.take_left' (by rw [List.length_append, htl]; rfl)]
    have e3 : intV (xs.take i ++ [y] ++ xs.drop i) = intV (xs.take i) ++ [Value.int .i64 y] ++ intV (xs.drop i) := by simp [intV]
    rw [hrow2, List.toList_toArray, e1, e3, List.take_left' (by rw [← e3, intV_length]; simp; omega)]
  have HO := Lib.hid (own_close (w := W2) (base := base) (xs := xs.take i ++ [y] ++ xs.drop i) (n := n + 1) (by simp; omega) (show base ≤ g by omega) (by rw [hW2]; exact setRow_heap W1.drew g row1 row2 3 _ hg1) hC1 hC2 hr2 ht2)
  have HG : Hid (w.grownBy W2 (some r)) := Lib.hid (by
    have a : w.grownBy W0 none := by rw [hW0]; exact grown_alloc (grown_drew (grown_refl _ _)) _
    have b : W0.grownBy W1 (some g) := by
      rw [hW1]
      exact ⟨rfl, rfl, rfl, by simp [World.setRow], fun k hk hne => setRow_other W0 g k _ (by intro e; subst e; exact hne rfl)⟩
    have d : W1.grownBy W2 (some g) := by
      rw [hW2]
      exact ⟨rfl, rfl, rfl, by simp [World.setRow], fun k hk hne => setRow_other W1.drew g k _ (by intro e; subst e; exact hne rfl)⟩
    exact (grown_join a (b.trans d) (.inr fun x hx => by injection hx with hx; omega)).but _)
  have q1 : IntKind.i64.wrap ((n : Int) + 1) = (n : Int) + 1 := IntWalk.i64_in _ (by omega)
  have q2 : IntKind.i64.wrap ((i : Int) + 1) = (i : Int) + 1 := IntWalk.i64_in _ (by omega)
  have q3 : ¬ ((i : Int) = (n : Int)) := by omega
  have q4 : (c : Int) < (n : Int) + 1 := by omega
  have q5 : ((i : Int) == (n : Int)) = false := by simp; omega
  have q6 : (i : Int) ≤ (n : Int) := by omega
  have q7 : IntKind.i64.wrap ((n : Int) + 1 - (i : Int)) = (n : Int) + 1 - (i : Int) := IntWalk.i64_in _ (by omega)
  clear hdl hti htl hC hrow0 hW0 hrow1 hW1 hr0 hr1 hg0 hg1 hold0 hcell1 hrow2 hW2 hr2 ht2 hcell hcs htake hl hv hg hrs hvs hC1 hC2 hnc hi0 hz0 hz1 hz2
  go_enter Try.func92, Try.ntmps92
  go_wp2_with (at_builtin; refine Lib.wpList_append_run _ rfl (.tmp 34) (.tmp 39) 27 3 rfl _ _ rfl rfl _ _ (hrz _) ?_)
  go_region_held3 (fun w' => True) (trivial) (fail)
  go_wp2_with fail
  go_ret
  exact ⟨_, _, rfl, HO.out, HG.out⟩
theorem own7_insert (A : Option Addr) (n c i base vb : Nat) (xs : List Int) (y : Int) (w : World) (h : OwnI w base A n c xs) (hb : base ≤ w.heap.size) (hv : w.heap[vb]? = some (.cells #[.int .i64 y] 3 (0, 0))) (hne : A.map (·.block) ≠ some vb) (hi : i ≤ n) (hn : n ≤ 1048576) :
    Calls Try.prog 92 #[.slice A n c, .int .i64 i, .slice (some ⟨vb, 0, none⟩) 1 1] w (InsP base i n A xs y w) := by
  by_cases he : i = n
  · subst he
    exact insert_end A i c base vb xs y w h hb hv hn
  · obtain ⟨r, cur, rfl, hbase, hcell, hnc, hcm, hcs, htake⟩ := own_open h (by omega)
    by_cases hroom : n + 1 ≤ c
    · exact insert_room r n c i base vb cur xs y w hbase hcell hcm hcs htake h.1 hv (fun e => hne (by rw [e]; rfl)) (by omega) hroom hn
    · exact insert_grow r n c i base vb cur xs y w hbase hcell hcs htake h.1 hnc hv (by omega) (by omega) hn
/-! ### With -/
set_option maxHeartbeats 2000000 in
theorem own7_with (A : Option Addr) (n c : Nat) (s : List Int) (x y : Int) (w : World) (h : NumsF w A n c s) (hn : n ≤ 1048576) :
    Calls Try.prog 83 #[.slice A n c, .int .i64 x, .int .i64 y] w (GaveIntsB (withL s x y) (withB s x y) w) := by
  have HR := Lib.hid (own7_right A n c _ s w h.1 hn)
  have HNM := Lib.hid (own7_named A n c x w)
  have HFT := Lib.hid (own7_fits 0 y w)
  have HCL := Lib.hid (own7_clone A n c s w h hn)
  have HL := Lib.hid h.len
  clear h
  have HWN := Lib.hid (show withB s x y = false → withL s x y = [] from fun hb => by unfold withL; rw [hb]; rfl)
  have HWB := Lib.hid (show ∀ b, rightS s = b → withB s x y = (b && decide (0 ≤ x ∧ x ≤ n ∧ 0 ≤ y ∧ y ≤ 1048576 ∧ n < 6)) from fun b hb => by unfold withB; rw [hb, HL.out])
  cases hr : rightS s with
  | false =>
    rw [hr] at HR
    have HNB := Lib.hid (show withB s x y = false by rw [HWB.out _ hr]; rfl)
    have HNL := Lib.hid (HWN.out HNB.out)
    clear hr
    go_enter Try.func83, Try.ntmps83
    go_wp2_with fail
    refine HR.out.mono ?_
    rintro e w1 ⟨rfl, rfl⟩
    go_wp2_with fail
    go_ret2
    exact GaveIntsB.none_ HNL.out HNB.out (grown_refl _ _)
  | true =>
    rw [hr] at HR
    have hn6 : n ≤ 6 := by rw [← HL.out]; exact (right_all hr).2
    by_cases h6 : n = 6
    · have d0 : ((n : Int) == 6) = true := by simp; omega
      have d1 : (n == 6) = true := by simp; exact h6
      have HNB := Lib.hid (show withB s x y = false by rw [HWB.out _ hr]; simp only [Bool.true_and, decide_eq_false_iff_not]; omega)
      have HNL := Lib.hid (HWN.out HNB.out)
      subst h6
      clear hr
      go_enter Try.func83, Try.ntmps83
      go_wp2_with fail
      refine HR.out.mono ?_
      rintro e w1 ⟨rfl, rfl⟩
      go_wp2_with fail
      go_ret2
      exact GaveIntsB.none_ HNL.out HNB.out (grown_refl _ _)
    · have d0 : ((n : Int) == 6) = false := by simp; omega
      have d1 : (n == 6) = false := by simp; exact h6
      by_cases hy : 0 ≤ y ∧ y ≤ 1048576
      · rw [decide_eq_true hy] at HFT
        by_cases hx : 0 ≤ x ∧ x ≤ n
        · have HYB := Lib.hid (show withB s x y = true by rw [HWB.out _ hr]; simp only [Bool.true_and, decide_eq_true_eq]; omega)
          have HYL := Lib.hid (show withL s x y = s.take x.toNat ++ [y] ++ s.drop x.toNat by unfold withL; rw [if_pos HYB.out])
          obtain ⟨k, rfl⟩ : ∃ k : Nat, x = (k : Int) := ⟨x.toNat, by omega⟩
          have hk : k ≤ n := by omega
          have HIN : Hid (∀ (w3 : World) (A3 : Option Addr) (c3 : Nat), OwnI w3 w.heap.size A3 n c3 s → w.grownBy w3 none → Calls Try.prog 92 #[.slice A3 n c3, .int .i64 k, .slice (some ⟨w3.heap.size, 0, none⟩) 1 1] (w3.alloc (.cells #[.int .i64 y] 3)) (GaveInts (s.take k ++ [y] ++ s.drop k) w)) := Lib.hid fun w3 A3 c3 ho hg => by
            have hA : A3.map (·.block) ≠ some w3.heap.size := by
              cases A3 with
              | none => simp
              | some a =>
                obtain ⟨r, e, hr, _⟩ := own_some ho
                subst e
                simp
                omega
            have hg2 := World.grownBy_alloc w3 (.cells #[.int .i64 y] 3) none
            refine (own7_insert A3 n c3 k w.heap.size w3.heap.size s y _ (ho.grow hg2) (by have := hg.size; simp; omega) (heap_alloc_new w3 _) hA hk hn).mono ?_
            rintro e w4 ⟨A4, c4, rfl, ho4, hg4⟩
            refine GaveInts.of rfl (by simp; have := HL.out; omega) ho4 (grown_join (grown_join hg hg2 (.inr (by simp))) hg4 (.inr fun b hb => ?_))
            cases A3 with
            | none => simp at hb
            | some a =>
              simp at hb
              obtain ⟨r, cur, e, hb0, _⟩ : ∃ r cur, some a = some ⟨r, 0, none⟩ ∧ w.heap.size ≤ r ∧ w3.heap[r]? = some (.cells cur 3 (0, 0)) := by
                rcases ho.2.2 with ⟨e, _⟩ | ⟨g, cap, cur, e, h1, h2, _⟩
                · cases e
                · injection e with e1 _ _
                  exact ⟨g, cur, e1, h1, h2⟩
              injection e with e
              subst e
              simp at hb
              omega
          obtain ⟨L, hLd⟩ : ∃ L, L = s.take k ++ [y] ++ s.drop k := ⟨_, rfl⟩
          rw [← hLd] at HIN
          have HY2 := Lib.hid (show withL s (k : Int) y = L from HYL.out.trans hLd.symm)
          clear HYL hLd
          have hcase : (k < n) ∨ (k = n) := by omega
          clear hr hx hy
          rcases hcase with hkn | hkn
          · have HNM2 : Hid (Calls Try.prog 90 #[.slice A n c, .int .i64 k] w fun e w' => e = .returned (.bool true) ∧ w' = w) := Lib.hid (by
              have := HNM.out
              rw [decide_eq_true (show (0 : Int) ≤ (k : Int) ∧ (k : Int) < (n : Int) by omega)] at this
              exact this)
            clear HNM
            go_enter Try.func83, Try.ntmps83
            go_wp2_with fail
            refine HR.out.mono ?_
            rintro e w1 ⟨rfl, rfl⟩
            go_wp2_with fail
            refine HFT.out.mono ?_
            rintro e w2 ⟨rfl, rfl⟩
            go_wp2_with fail
            refine HNM2.out.mono ?_
            rintro e w3 ⟨rfl, rfl⟩
            go_wp2_with fail
            refine HCL.out.mono ?_
            rintro e w4 ⟨A4, c4, rfl, ho, hg⟩
            rw [HL.out] at ho ⊢
            have HI := Lib.hid (HIN.out w4 A4 c4 ho hg)
            clear ho hg
            go_wp2_with fail
            refine HI.out.mono ?_
            rintro e w5 ⟨A5, c5, rfl, ho, hg⟩
            have HO := Lib.hid ho
            have HG := Lib.hid hg
            clear ho hg
            go_wp2_with fail
            go_ret2
            exact GaveIntsB.of HY2.out.symm HYB.out.symm (by rw [HY2.out]) HO.out HG.out
          · have HNM2 : Hid (Calls Try.prog 90 #[.slice A n c, .int .i64 k] w fun e w' => e = .returned (.bool false) ∧ w' = w) := Lib.hid (by
              have := HNM.out
              rw [decide_eq_false (show ¬ ((0 : Int) ≤ (k : Int) ∧ (k : Int) < (n : Int)) by omega)] at this
              exact this)
            clear HNM
            have e1 : ((k : Int) != (n : Int)) = false := by simp; omega
            subst hkn
            go_enter Try.func83, Try.ntmps83
            go_wp2_with fail
            refine HR.out.mono ?_
            rintro e w1 ⟨rfl, rfl⟩
            go_wp2_with fail
            refine HFT.out.mono ?_
            rintro e w2 ⟨rfl, rfl⟩
            go_wp2_with fail
            refine HNM2.out.mono ?_
            rintro e w3 ⟨rfl, rfl⟩
            go_wp2_with fail
            refine HCL.out.mono ?_
            rintro e w4 ⟨A4, c4, rfl, ho, hg⟩
            rw [HL.out] at ho ⊢
            have HI := Lib.hid (HIN.out w4 A4 c4 ho hg)
            clear ho hg
            go_wp2_with fail
            refine HI.out.mono ?_
            rintro e w5 ⟨A5, c5, rfl, ho, hg⟩
            have HO := Lib.hid ho
            have HG := Lib.hid hg
            clear ho hg
            go_wp2_with fail
            go_ret2
            exact GaveIntsB.of HY2.out.symm HYB.out.symm (by rw [HY2.out]) HO.out HG.out
        · have HNB := Lib.hid (show withB s x y = false by rw [HWB.out _ hr]; simp only [Bool.true_and, decide_eq_false_iff_not]; omega)
          have HNL := Lib.hid (HWN.out HNB.out)
          have e1 : (x != (n : Int)) = true := by simp; omega
          have HNM2 : Hid (Calls Try.prog 90 #[.slice A n c, .int .i64 x] w fun e w' => e = .returned (.bool false) ∧ w' = w) := Lib.hid (by
            have := HNM.out
            rw [decide_eq_false (show ¬ ((0 : Int) ≤ x ∧ x < (n : Int)) by omega)] at this
            exact this)
          clear hr hx hy HNM
          go_enter Try.func83, Try.ntmps83
          go_wp2_with fail
          refine HR.out.mono ?_
          rintro e w1 ⟨rfl, rfl⟩
          go_wp2_with fail
          refine HFT.out.mono ?_
          rintro e w2 ⟨rfl, rfl⟩
          go_wp2_with fail
          refine HNM2.out.mono ?_
          rintro e w3 ⟨rfl, rfl⟩
          go_wp2_with fail
          go_ret2
          exact GaveIntsB.none_ HNL.out HNB.out (grown_refl _ _)
      · rw [decide_eq_false hy] at HFT
        have HNB := Lib.hid (show withB s x y = false by rw [HWB.out _ hr]; simp only [Bool.true_and, decide_eq_false_iff_not]; omega)
        have HNL := Lib.hid (HWN.out HNB.out)
        clear hr hy
        go_enter Try.func83, Try.ntmps83
        go_wp2_with fail
        refine HR.out.mono ?_
        rintro e w1 ⟨rfl, rfl⟩
        go_wp2_with fail
        refine HFT.out.mono ?_
        rintro e w2 ⟨rfl, rfl⟩
        go_wp2_with fail
        go_ret2
        exact GaveIntsB.none_ HNL.out HNB.out (grown_refl _ _)
end Go.Proofs.Ytkpfhjjojchdlaa
