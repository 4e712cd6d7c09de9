/-
  Layer 6: the reference's Longest.
-/
import Derived.Test.YtfemfkiamipipaaNew6
import Derived.Test.YtfemfkiamipipaaHashR6
namespace Go.Proofs.Ytfemfkiamipipaa
open Go.ChangeShapes Go.WideShapes Go.ChangeAt Go.RowKit
set_option linter.unusedVariables false

theorem zeros_of6 (z : Value) (hz : z.cells = #[z]) (n : Nat) : (madeCells z.cells (n * 1)).toList = List.replicate n z := by
  rw [hz]
  apply List.ext_getElem
  · simp [madeCells]
  · intro i h1 h2
    simp [madeCells, Nat.mod_one]
theorem info_bool6 : (Try.prog.info? 4).map (fun i => (i.zero, i.size, i.bytes)) = some (some (.bool false), 1, 1) := by kernel_rfl
theorem make_bools6 (m : Nat) (hm : m ≤ 2097152) : ∃ Z : Array Value, Z.toList = List.replicate m (.bool false) ∧
    ∀ W : World, (Instr.makeSlice 64 (.int .i64 (m : Int)) (.int .i64 (m : Int))).run Try.prog W = .ok (.slice (some ⟨W.heap.size, 0, none⟩) m m) (W.alloc (.cells Z 4)) := by
  obtain ⟨i0, hi, hz0, hz1, hz2⟩ := info_parts info_bool6
  have hZ : (madeCells (Value.bool false).cells (m * i0.size)).toList = List.replicate m (.bool false) := by rw [hz1]; exact zeros_of6 _ rfl m
  refine ⟨madeCells (Value.bool false).cells (m * i0.size), hZ, fun W => ?_⟩
  have h := run_make (P := Try.prog) W 64 4 i0 _ Try.underlying64 hi hz0 .i64 .i64 (m : Int) (m : Int) (by omega) (by omega) (by rw [hz2]; omega) (by omega)
  simpa using h
/-- these cells tell which slots are taken. -/
def Takes (R : Nat) (T : Nat → Nat) (Z : Array Value) : Prop := ∀ k, k < R → Z[k]? = some (.bool (decide (T k ≠ 0)))
theorem takes_zero {R : Nat} {hs : Nat → Nat} {Z : Array Value} (h : Z.toList = List.replicate R (.bool false)) : Takes R (tabE R hs 0) Z := fun k hk => by
  rw [← Array.getElem?_toList, h, List.getElem?_replicate, if_pos hk]; rfl
theorem takes_put {R i : Nat} {hs : Nat → Nat} {Z : Array Value} (h : Takes R (tabE R hs i) Z) (hi : i < R) : Takes R (tabE R hs (i + 1)) (Z.setIfInBounds (slotE R hs i) (.bool true)) := fun k hk => by
  rw [tab_step, Array.getElem?_setIfInBounds]
  have hz : k < Z.size := (Array.getElem?_eq_some_iff.1 (h k hk)).1
  by_cases e : slotE R hs i = k
  · subst e
    rw [if_pos rfl, if_pos hz, if_pos rfl, decide_eq_true (by omega)]
  · rw [if_neg e, if_neg (Ne.symm e)]; exact h k hk
def hsOf (l : List Lab) (i : Nat) : Nat := hashN (l.getD i noLab)
theorem prob_step (h j R : Nat) : ((h + j) % R + 1) % R = (h + (j + 1)) % R := by rw [Nat.mod_add_mod, Nat.add_assoc]
set_option maxRecDepth 100000 in
set_option maxHeartbeats 4000000 in
theorem ref6Longest_any (b : Nat) (G : Nat → Prop) (l : List Lab) (w : World) (h : RTab w G b l) (hn : l.length ≤ 4096) (hok : ∀ i, i < l.length → 0 ≤ (l.getD i noLab).k ∧ (l.getD i noLab).k < 256 ∧ -9223372036854775808 ≤ (l.getD i noLab).n ∧ (l.getD i noLab).n < 9223372036854775808 ∧ (l.getD i noLab).s.size ≤ 1048576) :
    Calls Try.prog 21 #[.pointer (some ⟨b, 0, none⟩)] w (ToldG (.int .i64 (longE (roomE l.length) (hsOf l) l.length)) w) := by
  have HRO := Lib.hid (ref6Room_any b G l w h hn)
  have HOK := Lib.hid hok
  obtain ⟨A, n, c, base, hb, ho, _, _⟩ := h
  have HL := Lib.hid ho.1
  have HB := Lib.hid hb
  have HLS := Lib.hid (fun w' (hg : w.grownBy w' none) => ho.labs.grow hg)
  rw [ho.1] at hn HRO
  rw [ho.1]
  have HMO := Lib.hid (room_more n)
  have HSM := Lib.hid (room_small n)
  generalize roomE n = R at *
  have hR : n < R := HMO.out
  have hR2 : R ≤ 20000 := by have := HSM.out; omega
  obtain ⟨Z0, hZ0, hmk⟩ := make_bools6 R (by omega)
  have HZ0 := Lib.hid hZ0
  have hwR : IntKind.u64.wrap (R : Int) = (R : Int) := IntWalk.u64_in _ (by omega)
  clear hb ho hok hZ0
  go_enter Try.func21, Try.ntmps21
  go_wp2_with fail
  refine HRO.out.mono ?_
  rintro e w0 ⟨rfl, rfl⟩
  obtain ⟨g, hg0⟩ : ∃ g, g = w0.heap.size := ⟨_, rfl⟩
  have HGZ := Lib.hid hg0
  go_wp2_with fail
  rw [← hg0]
  clear hg0
  go_loopw [5, 6, 7, 8] (fun m i _ _ wr => ∃ (x : Nat) (Z : Array Value), x ≤ n ∧ i = .int .i64 x ∧ m = .int .i64 (longE R (hsOf l) x) ∧ Box wr g 4 Z ∧ Takes R (tabE R (hsOf l) x) Z ∧ w0.grownBy wr none) (fun _ i _ _ _ => n - (intOf i).toNat)
  case atStart => exact ⟨0, Z0, by omega, rfl, rfl, by rw [HGZ.out]; exact Box.fresh _ _ _, takes_zero HZ0.out, World.grownBy_alloc _ _ _⟩
  case round =>
    obtain ⟨x, Z, hx, rfl, rfl, hbz, ht, hg⟩ := hrel
    have HBZ := Lib.hid hbz
    have HT := Lib.hid ht
    have HG := Lib.hid hg
    have b0 := (HB.out.grown hg (by simp)).get 0
    by_cases hlt : x < n
    · obtain ⟨bb, off, rfl, _, k0, k1, k2⟩ := (HLS.out _ hg).at_ hlt
      obtain ⟨o1, o2, o3, o4, o5⟩ := HOK.out x (by rw [HL.out]; exact hlt)
      have HHS := Lib.hid (show hsOf l x = hashN (l.getD x noLab) from rfl)
      generalize l.getD x noLab = y at *
      obtain ⟨yk, yn, ys⟩ := y
      dsimp only at k0 k1 k2 o1 o2 o3 o4 o5
      have HHA := Lib.hid (ref5Hash_any yk yn ys wr o1 o2 o3 o4 o5)
      rw [hashN_is, ← HHS.out] at HHA
      have HRG := Lib.hid (hashI_range ⟨yk, yn, ys⟩)
      rw [hashN_is, ← HHS.out] at HRG
      clear o1 o2 o3 o4 o5 hbz ht hg
      obtain ⟨hh, hhh⟩ : ∃ hh, hh = hsOf l x := ⟨_, rfl⟩
      have HHH := Lib.hid hhh
      rw [← hhh] at HHA HRG
      clear hhh
      obtain ⟨q0, hq0⟩ : ∃ q0, q0 = hh % R := ⟨_, rfl⟩
      have HQ0 := Lib.hid hq0
      have hq1 : q0 < R := by rw [hq0]; exact Nat.mod_lt _ (by omega)
      have m1 : (hh : Int) % (R : Int) = (q0 : Int) := by rw [hq0]; rfl
      have m2 : wrap64 ((hh : Int) % (R : Int)) = (q0 : Int) := by rw [m1]; exact IntWalk.wrap64_in _ (by omega)
      have m4 : wrap64 (q0 : Int) = (q0 : Int) := IntWalk.wrap64_in _ (by omega)
      clear hq0
      have m3 : ((R : Int) == 0) = false := by simp; omega
      go_wp2_with fail
      refine HHA.out.mono ?_
      rintro e w2 ⟨rfl, hg2⟩
      have HG2 := Lib.hid (grown_join HG.out hg2 (.inr (by simp)))
      have HBZ2 := Lib.hid (HBZ.out.grown hg2 (by simp))
      clear hg2 k0 k1 k2 b0
      go_wp2_with fail
      have HFR := Lib.hid (tab_free (R := R) (hs := hsOf l) (show x < R by omega) hh)
      have HJE := Lib.hid (fun j (h1 : j < R) (h2 : tabE R (hsOf l) x ((hh + j) % R) = 0) (h3 : ∀ i, i < j → tabE R (hsOf l) x ((hh + i) % R) ≠ 0) => show jE R (hsOf l) x = j by
        unfold jE
        rw [← HHH.out]
        exact freeJ_is h1 h2 h3)
      go_loop [7, 8] (fun k c => ∃ j q : Nat, j < R ∧ q = (hh + j) % R ∧ k = .int .i64 (q : Int) ∧ c = .int .i64 ((j : Int) + 1) ∧ ∀ i, i < j → tabE R (hsOf l) x ((hh + i) % R) ≠ 0) (fun _ c => R + 1 - (intOf c).toNat)
      case atStart => exact ⟨0, q0, by omega, by rw [Nat.add_zero]; exact HQ0.out, rfl, rfl, fun i hi => by omega⟩
      case round =>
        obtain ⟨j, q, hj, hq, rfl, rfl, hb⟩ := hrel
        have HQ := Lib.hid hq
        have HBB := Lib.hid hb
        have hqR : q < R := by rw [hq]; exact Nat.mod_lt _ (by omega)
        have c0 := HBZ2.out.get q
        rw [HT.out q hqR] at c0
        clear hq hb
        by_cases hT : tabE R (hsOf l) x q = 0
        · rw [decide_eq_false (by omega)] at c0
          have f0 := HBZ2.out.free q
          have HJ := Lib.hid (HJE.out j hj (by rw [← HQ.out]; exact hT) HBB.out)
          clear hT
          have HSL := Lib.hid (show slotE R (hsOf l) x = q by unfold slotE; rw [HJ.out, ← HHH.out, ← HQ.out])
          go_wp2_with fail
          go_roundw
          case rel => exact ⟨x + 1, Z.setIfInBounds q (.bool true), by omega, by go_num, by rw [longE, HJ.out]; exact congrArg (Value.int .i64) (by split <;> omega), HBZ2.out.put q _, by rw [← HSL.out]; exact takes_put HT.out (by omega), grown_put HG2.out (.inr (by rw [HGZ.out]; exact Nat.le_refl _)) _⟩
          case measure => simp [intOf]; omega
        · rw [decide_eq_true (by omega)] at c0
          have hj1 : j + 1 < R := by
            obtain ⟨j0, h1, h2, _⟩ := HFR.out
            by_cases e : j0 ≤ j
            · exfalso
              by_cases e2 : j0 = j
              · rw [e2, ← HQ.out] at h2; exact hT h2
              · exact HBB.out j0 (by omega) h2
            · omega
          obtain ⟨q2, hq2⟩ : ∃ q2, q2 = (q + 1) % R := ⟨_, rfl⟩
          have HQ2 := Lib.hid hq2
          have hq3 : q2 < R := by rw [hq2]; exact Nat.mod_lt _ (by omega)
          have r1 : ((q : Int) + 1) % (R : Int) = (q2 : Int) := by rw [hq2]; rfl
          have r2 : ((q : Int) + 1).tmod (R : Int) = (q2 : Int) := by rw [IntWalk.rem_in _ _ (by omega)]; exact r1
          have HTT := Lib.hid hT
          clear hT hq2
          go_wp2_with fail
          go_round
          case rel => exact ⟨j + 1, q2, hj1, by rw [HQ2.out, HQ.out, prob_step], rfl, by go_num, fun i hi => by
            by_cases e : i = j
            · subst e; rw [← HQ.out]; exact HTT.out
            · exact HBB.out i (by omega)⟩
          case measure => simp [intOf]; omega
    · obtain rfl : n = x := by omega
      go_wp2_with fail
      go_ret
      exact ⟨rfl, HG.out⟩
end Go.Proofs.Ytfemfkiamipipaa
