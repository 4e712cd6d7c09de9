/-
  Layer 4: the closure of order's Sort that lays two runs as one.
-/
import Derived.Test.YtffobpbpdnamnaaThings4
import Derived.Deep.RegionHeld3
namespace Go.Proofs.Ytffobpbpdnamnaa
open Go.ChangeShapes Go.WideShapes Go.ChangeAt Go.RowKit
set_option linter.unusedVariables false

theorem placesI_at {r : List Nat} {i : Nat} (h : i < r.length) : (placesI r).getD i 0 = ((r.getD i 0 : Nat) : Int) := placesI_get h
theorem plain_lay : Plain 27 := fun args w => by kernel_rfl
/-- the row with the piece from a to b merged. -/
def laidRow (K : Int → Int) (l : List Int) (row : List Nat) (a m b : Nat) : List Nat := splice row a (mrgN (atK K l) (piece row a m) (piece row m b))
/-- the call that lays, in a world where the first run has been put out of the way. -/
theorem merge_lay {base b2 b3 b5 b6 b8 R S : Nat} {A : Option Addr} {n c : Nat} {f : FuncId} {K : Int → Int} {l : List Int} {row : List Nat} {a m b ka kb : Nat} {zs : List Int} {w5 : World} (st : St4 w5 base b2 b3 b5 b6 b8 R S A n c f l row) (hf : IsCmp f K) (hn : n ≤ 1048576)
    (h1 : a < m) (h2 : m < b) (h3 : b ≤ n) (ha : Seg (atK K l) a m (piece row a m)) (hb : Seg (atK K l) m b (piece row m b)) (hka : ka = m - a) (hkb : kb = b - m) (hzs : zs.length = n) (hS : Whole w5 S (splice zs 0 (piece (placesI row) a m))) :
    Calls Try.prog 27 #[.slice (some ⟨R, a, none⟩) (ka + kb) (n - a), .slice (some ⟨S, 0, none⟩) ka n, .slice (some ⟨R, m, none⟩) kb (n - m), .func (.func 25) #[] #[.pointer (some ⟨b3, 0, none⟩), .pointer (some ⟨b2, 0, none⟩)]] w5
      (Laid w5 R (placesI (laidRow K l row a m b))) := by
  have hlen : row.length = n := by obtain ⟨_, _, _, _, _, _, _, _, _, _, _, h, _⟩ := st; exact h
  have hR : Whole w5 R (placesI row) := by obtain ⟨_, _, _, _, _, _, h, _⟩ := st; exact h
  have hRS : R ≠ S := by obtain ⟨_, _, _, _, _, _, _, _, _, _, h, _⟩ := st; exact h
  have hla : (piece row a m).length = m - a := piece_length (by omega)
  have hlb : (piece row m b).length = b - m := piece_length (by omega)
  have hpl : (piece (placesI row) a m).length = m - a := by rw [← placesI_piece, placesI_length, hla]
  have h := lay4_any 25 #[.pointer (some ⟨b3, 0, none⟩), .pointer (some ⟨b2, 0, none⟩)] (atZ K l) R a (n - a) (some ⟨S, 0, none⟩) (some ⟨R, m, none⟩) n (n - m) ka kb (placesI row) (placesI (piece row a m)) (placesI (piece row m b)) w5 plain_things
    (st.ask hf hn (fun x hx => by have := (ha.2 x).1 hx; omega) (fun x hx => by have := (hb.2 x).1 hx; omega)) hR (by rw [placesI_length, hla, hka]) (by rw [placesI_length, hlb, hkb]) (by rw [placesI_length]; omega) (by rw [placesI_length]; omega)
    (fun _ => ⟨S, 0, rfl, hS.small, fun e => hRS e.symm, fun k hk => by
      rw [placesI_length, hla] at hk
      rw [hS.cell (by rw [length_splice _ _ _ (by rw [hpl]; omega)]; omega), splice_get (by rw [hpl]; omega), if_pos (by rw [hpl]; omega), placesI_piece, Nat.zero_add, Nat.sub_zero]⟩)
    (fun _ => ⟨R, m, rfl, hR.small, .inr ⟨rfl, by omega⟩, fun k hk => by
      rw [placesI_length, hlb] at hk
      rw [hR.cell (by rw [placesI_length]; omega), placesI_at (by omega), placesI_at (by omega), piece_getD (by omega)]⟩) (by omega) (by omega)
  rw [placesI_merge (atK K l) (atZ K l) (fun x => by unfold atZ atK; rw [Int.toNat_natCast]), ← placesI_splice] at h
  exact h
theorem merge_end {base b2 b3 b5 b6 b8 R S : Nat} {A : Option Addr} {n c : Nat} {f : FuncId} {K : Int → Int} {l : List Int} {row : List Nat} {a m b : Nat} {w w5 w6 : World} (st : St4 w5 base b2 b3 b5 b6 b8 R S A n c f l row) (hw : Below base w w5)
    (h1 : a < m) (h2 : m < b) (h3 : b ≤ n) (ha : Seg (atK K l) a m (piece row a m)) (hb : Seg (atK K l) m b (piece row m b)) (h6 : Whole w6 R (placesI (laidRow K l row a m b))) (hg : w5.grownBy w6 (some R)) :
    Merged w base b2 b3 b5 b6 b8 R S A n c f l (atK K l) row a b (.returned (.tuple #[])) w6 := by
  have hlen : row.length = n := by obtain ⟨_, _, _, _, _, _, _, _, _, _, _, h, _⟩ := st; exact h
  have hbR : base ≤ R := by obtain ⟨_, _, _, _, _, _, _, _, h, _⟩ := st; exact h
  have hbw : base ≤ w5.heap.size := by obtain ⟨_, _, _, _, _, _, _, _, _, _, _, _, h⟩ := st; exact h
  have hml : (mrgN (atK K l) (piece row a m) (piece row m b)).length = b - a := by rw [mrgN_length, piece_length (by omega), piece_length (by omega)]; omega
  refine ⟨rfl, laidRow K l row a m b, st.first hg h6 (by unfold laidRow; rw [length_splice _ _ _ (by rw [hml]; omega)]; exact hlen), ?_, fun x y hxy => ?_, hw.trans (below_of_grown_row hg hbw fun x hx => by injection hx with hx; omega)⟩
  · unfold laidRow
    rw [piece_splice (by rw [hml]; omega) (by rw [hml]; omega)]
    exact ha.merge hb (by omega) (by omega)
  · unfold laidRow
    exact piece_apart (by rw [hml]; omega) (by rw [hml]; omega)
theorem St4.keep {w w' : World} {base b2 b3 b5 b6 b8 R S n c : Nat} {A : Option Addr} {f : FuncId} {l : List Int} {row : List Nat} (h : St4 w base b2 b3 b5 b6 b8 R S A n c f l row) (hg : w.grownBy w' (some R)) :
    w'.cell? ⟨b5, 0, none⟩ = some (.slice (some ⟨R, 0, none⟩) n n) ∧ w'.cell? ⟨b8, 0, none⟩ = some (.func (.func 25) #[] #[.pointer (some ⟨b3, 0, none⟩), .pointer (some ⟨b2, 0, none⟩)]) := by
  obtain ⟨h2, h3, h5, h6, h8, hl, hR, _⟩ := h
  exact ⟨(h5.grown hg (whole_box_apart h5 hR (by decide))).get 0, (h8.grown hg (whole_box_apart h8 hR (by decide))).get 0⟩
set_option maxHeartbeats 4000000 in
theorem merge4_any (base b2 b3 b5 b6 b8 R S : Nat) (A : Option Addr) (n c : Nat) (f : FuncId) (K : Int → Int) (l : List Int) (row : List Nat) (a m b : Nat) (w : World) (st : St4 w base b2 b3 b5 b6 b8 R S A n c f l row) (hf : IsCmp f K) (hn : n ≤ 1048576)
    (h1 : a < m) (h2 : m < b) (h3 : b ≤ n) (ha : Seg (atK K l) a m (piece row a m)) (hb : Seg (atK K l) m b (piece row m b)) :
    Calls Try.prog 26 #[.int .i64 a, .int .i64 m, .int .i64 b, .pointer (some ⟨b8, 0, none⟩), .pointer (some ⟨b5, 0, none⟩), .pointer (some ⟨b6, 0, none⟩)] w (Merged w base b2 b3 b5 b6 b8 R S A n c f l (atK K l) row a b) := by
  have hlen : row.length = n := by obtain ⟨_, _, _, _, _, _, _, _, _, _, _, h, _⟩ := st; exact h
  have HLEN := Lib.hid hlen
  have HST := Lib.hid st
  have HA := Lib.hid ha
  have HB := Lib.hid hb
  have HF := Lib.hid hf
  obtain ⟨m0, rfl⟩ : ∃ m0, m = m0 + 1 := ⟨m - 1, by omega⟩
  have c8 : w.cell? ⟨b8, 0, none⟩ = some (.func (.func 25) #[] #[.pointer (some ⟨b3, 0, none⟩), .pointer (some ⟨b2, 0, none⟩)]) := by obtain ⟨_, _, _, _, h, _⟩ := st; exact h.get 0
  have c5 : w.cell? ⟨b5, 0, none⟩ = some (.slice (some ⟨R, 0, none⟩) n n) := by obtain ⟨_, _, h, _⟩ := st; exact h.get 0
  have hwh : Whole w R (placesI row) := by obtain ⟨_, _, _, _, _, _, h, _⟩ := st; exact h
  have g1 := hwh.cell (i := m0) (by rw [placesI_length]; omega)
  have g2 := hwh.cell (i := m0 + 1) (by rw [placesI_length]; omega)
  rw [placesI_at (by omega)] at g1 g2
  have hla : (piece row a (m0 + 1)).length = m0 + 1 - a := piece_length (by omega)
  have hlb : (piece row (m0 + 1) b).length = b - (m0 + 1) := piece_length (by omega)
  have hu1 : row.getD m0 0 < n := by
    have h4 := piece_getD (r := row) (a := a) (b := m0 + 1) (i := m0 - a) (by omega)
    rw [show a + (m0 - a) = m0 by omega] at h4
    have h5 : (piece row a (m0 + 1)).getD (m0 - a) 0 ∈ piece row a (m0 + 1) := by
      simp only [List.getD, List.getElem?_eq_getElem (show m0 - a < (piece row a (m0 + 1)).length by omega), Option.getD_some]
      exact List.getElem_mem _
    have := (ha.2 _).1 h5
    omega
  have hv1 : row.getD (m0 + 1) 0 < n := by
    have h4 := piece_getD (r := row) (a := m0 + 1) (b := b) (i := 0) (by omega)
    rw [Nat.add_zero] at h4
    have h5 : (piece row (m0 + 1) b).getD 0 0 ∈ piece row (m0 + 1) b := by
      simp only [List.getD, List.getElem?_eq_getElem (show 0 < (piece row (m0 + 1) b).length by omega), Option.getD_some]
      exact List.getElem_mem _
    have := (hb.2 _).1 h5
    omega
  have HTH := Lib.hid (fun k => by
    obtain ⟨k2, k3, _, _, _, kl, _⟩ := (st.drewN k)
    exact things4_any f K b2 b3 A n c l base (row.getD m0 0) (row.getD (m0 + 1) 0) (w.drewN k) hf (k3.get 0) (k2.get 0) kl hn hu1 hv1)
  generalize hu : row.getD m0 0 = u at *
  generalize hv : row.getD (m0 + 1) 0 = v at *
  have HU := Lib.hid hu
  have HV := Lib.hid hv
  have s1 : ((m0 : Int) + 1 - 1) = (m0 : Int) := by omega
  have hw1 : IntKind.i64.wrap ((m0 : Int) + 1 - 1) = (m0 : Int) := by rw [s1]; exact IntWalk.i64_in _ (by omega)
  have hw2 : IntKind.i64.wrap (m0 : Int) = (m0 : Int) := IntWalk.i64_in _ (by omega)
  have e1 : atZ K l (u : Int) = atK K l u := by unfold atZ atK; rw [Int.toNat_natCast]
  have e2 : atZ K l (v : Int) = atK K l v := by unfold atZ atK; rw [Int.toNat_natCast]
  have HLA := Lib.hid hla
  have HLB := Lib.hid hlb
  have i1 : (0 : Int) ≤ (m0 : Int) := by omega
  have i2 : (m0 : Int) + 1 < (n : Int) := by omega
  have i3 : (m0 : Int) < (n : Int) := by omega
  by_cases he : atK K l u ≤ atK K l v
  · have hb1 : decide (cmpI (atZ K l (u : Int)) (atZ K l (v : Int)) ≤ 0) = true := decide_eq_true (cmpI_le.2 (by rw [e1, e2]; exact he))
    have HE := Lib.hid he
    clear he e1 e2 hlen st ha hb hf hla hlb hu1 hv1 hu hv hwh
    go_enter Try.func26, Try.ntmps26
    go_wp2
    go_quiet (exact Calls.quiet_of (HTH.out _))
    go_wp2
    go_end0
    refine ⟨rfl, row, HST.out.drewN _, ?_, fun x y _ => rfl, below_of_grown_row (grown_drewN (grown_refl w none) _) (by obtain ⟨_, _, _, _, _, _, _, _, _, _, _, _, h⟩ := HST.out; exact h) (by simp)⟩
    rw [piece_join (m := m0 + 1) (by omega) (by omega) (by rw [HLEN.out]; omega)]
    refine HA.out.append HB.out (by omega) (by omega) fun _ _ => ?_
    rw [HLA.out, piece_getD (by omega), piece_getD (by omega), show a + (m0 + 1 - a - 1) = m0 by omega, Nat.add_zero, HU.out, HV.out]
    exact HE.out
  · have hb1 : decide (cmpI (atZ K l (u : Int)) (atZ K l (v : Int)) ≤ 0) = false := decide_eq_false (fun h => he (by rw [← e1, ← e2]; exact cmpI_le.1 h))
    clear he e1 e2 hlen st ha hb hf hla hlb hu1 hv1 hu hv hwh
    go_enter Try.func26, Try.ntmps26
    go_wp2
    go_quiet (exact Calls.quiet_of (HTH.out _))
    go_wp2
    have st4 := HST.out.drewN nq
    have hb4 : Below base w (w.drewN nq) := below_of_grown_row (grown_drewN (grown_refl w none) _) (by obtain ⟨_, _, _, _, _, _, _, _, _, _, _, _, h⟩ := HST.out; exact h) (by simp)
    generalize w.drewN nq = w4 at *
    clear HTH c8 c5 g1 g2 s1 hw1 hw2 hb1
    obtain ⟨m, hm⟩ : ∃ m, m = m0 + 1 := ⟨_, rfl⟩
    have i4 : (m0 : Int) + 1 = (m : Int) := by omega
    rw [← hm] at HA HB HLA HLB h1 h2 ⊢
    have hc5 : w4.cell? ⟨b5, 0, none⟩ = some (.slice (some ⟨R, 0, none⟩) n n) := by obtain ⟨_, _, h, _⟩ := st4; exact h.get 0
    have hc6 : w4.cell? ⟨b6, 0, none⟩ = some (.slice (some ⟨S, 0, none⟩) n n) := by obtain ⟨_, _, _, h, _⟩ := st4; exact h.get 0
    obtain ⟨zs, hzs, hS⟩ : ∃ zs : List Int, zs.length = n ∧ Whole w4 S zs := by obtain ⟨_, _, _, _, _, _, _, h, _⟩ := st4; exact h
    have hR : Whole w4 R (placesI row) := by obtain ⟨_, _, _, _, _, _, h, _⟩ := st4; exact h
    have hpl : (piece (placesI row) a m).length = m - a := by rw [← placesI_piece, placesI_length, HLA.out]
    obtain ⟨ka, hka⟩ : ∃ ka, ka = m - a := ⟨_, rfl⟩
    obtain ⟨kb, hkb⟩ : ∃ kb, kb = b - m := ⟨_, rfl⟩
    obtain ⟨w5, hcp, hw5, hg5⟩ := run_copy_whole (w := w4.drew) (cs := piece (placesI row) a m) (show Whole _ _ _ from hS) 0 n n ka (n - a) (some ⟨S, 0, none⟩) (some ⟨R, a, none⟩) (by rw [hpl, hka]; exact (Nat.min_eq_left (by omega)).symm) (fun _ => ⟨rfl, _, rfl, fun j hj => by
      rw [hpl] at hj
      rw [Addr.add_lit]
      have h4 := hR.cell (i := a + j) (by rw [placesI_length, HLEN.out]; omega)
      rw [placesI_at (by rw [HLEN.out]; omega)] at h4
      rw [← placesI_piece, placesI_at (by rw [HLA.out]; exact hj), piece_getD hj]
      exact h4⟩) (by rw [hpl]; omega) 3
    rw [hpl, ← hka] at hcp
    have st5 := (st4.drewN 1).second hg5 hw5 (by rw [length_splice _ _ _ (by rw [hpl]; omega)]; exact hzs)
    have hb5 := hb4.drew.trans (below_of_grown_row hg5 (by obtain ⟨_, _, _, _, _, _, _, _, _, _, _, _, h⟩ := st4; exact h) (fun x hx => by injection hx with hx; obtain ⟨_, _, _, _, _, _, _, _, _, h, _⟩ := st4; omega))
    have kc5 : w5.cell? ⟨b5, 0, none⟩ = some (.slice (some ⟨R, 0, none⟩) n n) := by obtain ⟨_, _, h, _⟩ := st5; exact h.get 0
    have kc6 : w5.cell? ⟨b6, 0, none⟩ = some (.slice (some ⟨S, 0, none⟩) n n) := by obtain ⟨_, _, _, h, _⟩ := st5; exact h.get 0
    have kc8 : w5.cell? ⟨b8, 0, none⟩ = some (.func (.func 25) #[] #[.pointer (some ⟨b3, 0, none⟩), .pointer (some ⟨b2, 0, none⟩)]) := by obtain ⟨_, _, _, _, h, _⟩ := st5; exact h.get 0
    have HLAY := Lib.hid (merge_lay (w5 := w5.drew) (st5.drewN 1) HF.out hn h1 h2 h3 HA.out HB.out hka hkb hzs (show Whole _ _ _ from hw5))
    have HST5 := Lib.hid (st5.drewN 1)
    have HB5 : Hid (Below base w w5.drew) := Lib.hid hb5.drew
    have j1 : (0 : Int) ≤ (a : Int) := by omega
    have j2 : (a : Int) ≤ (m : Int) := by omega
    have j3 : (m : Int) ≤ (n : Int) := by omega
    have j4 : (m : Int) ≤ (b : Int) := by omega
    have j5 : (b : Int) ≤ (n : Int) := by omega
    have j6 : (a : Int) ≤ (b : Int) := by omega
    have j7 : (0 : Int) ≤ (m : Int) := by omega
    have n1 : ¬ n = a := by omega
    have n2 : ¬ n = m := by omega
    have n3 : ¬ a = n := by omega
    have n4 : ¬ m = n := by omega
    have k1 : (0 : Int) ≤ (ka : Int) := by omega
    have k2 : (ka : Int) ≤ (n : Int) := by omega
    have k3 : m - a = ka := hka.symm
    have k4 : b - m = kb := hkb.symm
    have k5 : b - a = ka + kb := by omega
    clear hw5 hg5 st4 st5 hS hR hpl hb4 hb5 hka hkb hzs hm i4 HU HV i1 i2 i3
    go_region_held3 (fun w' => w'.cell? ⟨b5, 0, none⟩ = some (.slice (some ⟨R, 0, none⟩) n n) ∧ w'.cell? ⟨b6, 0, none⟩ = some (.slice (some ⟨S, 0, none⟩) n n)) (go_keep) (fail)
    go_wp2
    have HKEEP := Lib.hid (fun (w6 : World) (hg : w5.drew.grownBy w6 (some R)) => St4.keep HST5.out hg)
    go_region_held3 (fun w' => w'.cell? ⟨b5, 0, none⟩ = some (.slice (some ⟨R, 0, none⟩) n n) ∧ w'.cell? ⟨b8, 0, none⟩ = some (.func (.func 25) #[] #[.pointer (some ⟨b3, 0, none⟩), .pointer (some ⟨b2, 0, none⟩)])) (first | go_keep | exact HKEEP.out _ (by assumption))
      ((go_at_call 27; refine HLAY.out.mono ?_; rintro e w6 ⟨rfl, hw6, hg6⟩; have HW6 := Lib.hid hw6; have HG6 := Lib.hid hg6; clear hw6))
    go_wp2
    go_end0
    exact merge_end HST5.out HB5.out h1 h2 h3 HA.out HB.out HW6.out HG6.out
end Go.Proofs.Ytffobpbpdnamnaa
