/-
  The law package's Cells, Refs, put; the reference's Norm, Same, New, Copy.
-/
import Derived.Test.YtabkgdichlebmaaCels
namespace Go.Proofs.Ytabkgdichlebmaa
open Go.ChangeShapes Go.WideShapes Go.ChangeAt Go.RowKit
set_option linter.unusedVariables false

theorem info_rcel : (Try.prog.info? 30).map (fun i => (i.zero, i.size, i.bytes)) = some (some (.agg #[.int .i64 0, .bool false]), 2, 16) := by kernel_rfl
theorem celV_take (l : List Cel) (x : Nat) (h : x < l.length) : celV (l.take (x + 1)) = celV (l.take x) ++ [.int .i64 (l.getD x noCel).v, .bool (l.getD x noCel).ok] := by
  rw [List.take_succ_eq_append_getElem h, celV_snoc]
  simp [List.getD, h]
theorem new_cells2 (w : World) (u v : Value) (t : TypeId) : ∀ j x, [u, v][j]? = some x → (w.alloc (.cells #[u, v] t)).cell? ((⟨w.heap.size, 0, none⟩ : Addr).add j) = some x := by
  intro j x hx
  match j, hx with
  | 0, hx =>
    rw [Addr.add_lit, cell_of_row _ _ _ _ _ _ (heap_alloc_new w _)]
    exact hx
  | 1, hx =>
    rw [Addr.add_lit, cell_of_row _ _ _ _ _ _ (heap_alloc_new w _)]
    exact hx
theorem two_one (a : Int) (b : Bool) : ∀ u ∈ [Value.int .i64 a, .bool b], u.oneCell' = true := by
  intro u hu
  simp at hu
  rcases hu with rfl | rfl <;> rfl
theorem own_slice {w : World} {base : Nat} {e : TypeId} {size n : Nat} {v : Value} {xs : List Value} (h : w.ownsRow base e size v n xs) : ∃ A c, v = .slice A n c := by
  rcases h.2 with ⟨rfl, rfl⟩ | ⟨k, cap, cur, rfl, _⟩
  · exact ⟨_, _, rfl⟩
  · exact ⟨_, _, rfl⟩

set_option maxHeartbeats 1000000 in
theorem lawCells_any (A : Option Addr) (n c : Nat) (l : List Cel) (w : World) (h : Cels w w.heap.size A n l) (hn : n ≤ 1048576) :
    Calls Try.prog 8 #[.slice A n c] w (GaveCels 34 l w) := by
  have H := Lib.hid h
  have HN := Lib.hid h.1
  obtain ⟨i0, hi, hz0, hz1, hz2⟩ := info_parts info_cel
  clear h
  go_enter Try.func8, Try.ntmps8
  go_wp2_with fail
  go_loopw [3, 4] (fun v i wr => ∃ x : Nat, x ≤ n ∧ i = .int .i64 x ∧ wr.ownsRow w.heap.size 34 2 v x (celV (l.take x)) ∧ w.grownBy wr none) (fun _ i _ => n - (intOf i).toNat)
  case atStart => exact ⟨0, by omega, rfl, World.ownsRow_nil _ _ _ _, grown_refl _ _⟩
  case round =>
    obtain ⟨x, hx, rfl, ho, hg⟩ := hrel
    by_cases hlt : x < n
    · obtain ⟨b, off, rfl, hb, hc1, hc2⟩ := (H.out.below (below_of_grown hg)).at_ hlt
      have HT := Lib.hid (celV_take l x (by rw [HN.out]; exact hlt))
      generalize l.getD x noCel = y at *
      obtain ⟨yv, yo⟩ := y
      have HO := Lib.hid ho
      have HG := Lib.hid hg
      have hsz := hg.size
      clear ho hg
      go_wp2_with (at_builtin; refine wpList_append_own_at _ rfl (.tmp 11) (.tmp 16) _ rfl w.heap.size 34 i0 _ 2 16 Try.underlying27 hi hz0 hz1 hz2 rfl (by omega) u3 x _ rfl (HO.out.alloc _) ⟨_, 0, none⟩ 1 1 [.int .i64 yv, .bool yo] rfl rfl (new_cells2 _ _ _ _) (two_one _ _) (by simp only [maxLen]; omega) (by omega) (by simp; omega) ?_; intro v7' w4 hown4 hg4 _ hat4; have HO4 := Lib.hid hown4; have HG4 := Lib.hid hg4; clear hown4 hg4 hat4)
      go_roundw
      case rel => exact ⟨x + 1, by omega, by go_num, by rw [HT.out]; exact HO4.out, grown_join (grown_alloc HG.out _) HG4.out (.inr fun y hy => (HO.out.lt y hy).1)⟩
      case measure => simp [intOf]; omega
    · obtain rfl : x = n := by omega
      have HO := Lib.hid ho
      have HG := Lib.hid hg
      clear ho hg
      go_wp2
      go_ret
      have h2 := HO.out
      rw [List.take_of_length_le (by rw [HN.out]; exact Nat.le_refl _)] at h2
      obtain ⟨A', c', rfl⟩ := own_slice h2
      unfold GaveCels
      rw [HN.out]
      exact ⟨A', c', rfl, ⟨HN.out, h2⟩, HG.out⟩

set_option maxHeartbeats 1000000 in
theorem lawRefs_any (A : Option Addr) (n c : Nat) (l : List Cel) (w : World) (h : Cels w w.heap.size A n l) (hn : n ≤ 1048576) :
    Calls Try.prog 17 #[.slice A n c] w (GaveCels 30 l w) := by
  have H := Lib.hid h
  have HN := Lib.hid h.1
  obtain ⟨i0, hi, hz0, hz1, hz2⟩ := info_parts info_rcel
  clear h
  go_enter Try.func17, Try.ntmps17
  go_wp2_with fail
  go_loopw [3, 4] (fun v i wr => ∃ x : Nat, x ≤ n ∧ i = .int .i64 x ∧ wr.ownsRow w.heap.size 30 2 v x (celV (l.take x)) ∧ w.grownBy wr none) (fun _ i _ => n - (intOf i).toNat)
  case atStart => exact ⟨0, by omega, rfl, World.ownsRow_nil _ _ _ _, grown_refl _ _⟩
  case round =>
    obtain ⟨x, hx, rfl, ho, hg⟩ := hrel
    by_cases hlt : x < n
    · obtain ⟨b, off, rfl, hb, hc1, hc2⟩ := (H.out.below (below_of_grown hg)).at_ hlt
      have HT := Lib.hid (celV_take l x (by rw [HN.out]; exact hlt))
      generalize l.getD x noCel = y at *
      obtain ⟨yv, yo⟩ := y
      have HO := Lib.hid ho
      have HG := Lib.hid hg
      have hsz := hg.size
      clear ho hg
      go_wp2_with (at_builtin; refine wpList_append_own_at _ rfl (.tmp 11) (.tmp 16) _ rfl w.heap.size 30 i0 _ 2 16 Try.underlying22 hi hz0 hz1 hz2 rfl (by omega) u3 x _ rfl (HO.out.alloc _) ⟨_, 0, none⟩ 1 1 [.int .i64 yv, .bool yo] rfl rfl (new_cells2 _ _ _ _) (two_one _ _) (by simp only [maxLen]; omega) (by omega) (by simp; omega) ?_; intro v7' w4 hown4 hg4 _ hat4; have HO4 := Lib.hid hown4; have HG4 := Lib.hid hg4; clear hown4 hg4 hat4)
      go_roundw
      case rel => exact ⟨x + 1, by omega, by go_num, by rw [HT.out]; exact HO4.out, grown_join (grown_alloc HG.out _) HG4.out (.inr fun y hy => (HO.out.lt y hy).1)⟩
      case measure => simp [intOf]; omega
    · obtain rfl : x = n := by omega
      have HO := Lib.hid ho
      have HG := Lib.hid hg
      clear ho hg
      go_wp2
      go_ret
      have h2 := HO.out
      rw [List.take_of_length_le (by rw [HN.out]; exact Nat.le_refl _)] at h2
      obtain ⟨A', c', rfl⟩ := own_slice h2
      unfold GaveCels
      rw [HN.out]
      exact ⟨A', c', rfl, ⟨HN.out, h2⟩, HG.out⟩
end Go.Proofs.Ytabkgdichlebmaa
