/-
  Layer 6: the reference's New, Room.
-/
import Derived.Test.YtfemfkiamipipaaAdd6
namespace Go.Proofs.Ytfemfkiamipipaa
open Go.ChangeShapes Go.WideShapes Go.ChangeAt Go.RowKit
set_option linter.unusedVariables false

/-- a table is told that has just those labels, or an error. -/
def MadeR (r : List Lab × Nat) (w : World) (e : Ending) (w' : World) : Prop :=
  (r.2 = 0 ∧ ∃ b G, e = .returned (.tuple #[.pointer (some ⟨b, 0, none⟩), .int .i64 0]) ∧ RTab w' G b r.1 ∧ (∀ x, G x → w.heap.size ≤ x ∧ x < w'.heap.size) ∧ w.grownBy w' none) ∨
  (r.2 ≠ 0 ∧ e = .returned (.tuple #[.pointer none, .int .i64 r.2]) ∧ w.grownBy w' none)
theorem new_drop {l acc : List Lab} {x : Nat} (hx : x < l.length) : newE acc (l.drop x) = if (addE acc (l.getD x noLab)).2.2 = 0 then newE (addE acc (l.getD x noLab)).1 (l.drop (x + 1)) else ([], (addE acc (l.getD x noLab)).2.2) := by
  rw [List.drop_eq_getElem_cons hx, newE, List.getD_eq_getElem?_getD, List.getElem?_eq_getElem hx]; rfl
theorem add_len {l : List Lab} {a : Lab} (h : l.length ≤ 4096) : (addE l a).1.length ≤ 4096 := by
  unfold addE
  split
  · exact h
  · split
    · exact h
    · split
      · exact h
      · simp; omega
theorem add_short {l : List Lab} {a : Lab} : (addE l a).2.2 ≤ 9 := by
  unfold addE
  split
  · exact Nat.le_refl _
  · split
    · exact (show (6 : Nat) ≤ 9 by decide)
    · split
      · exact (show (7 : Nat) ≤ 9 by decide)
      · exact (show (0 : Nat) ≤ 9 by decide)
theorem rtab_new (w : World) (b : Nat) (hb : b = w.heap.size) : RTab (w.alloc (.cells #[.slice none 0 0] 47)) (fun x => w.heap.size ≤ x ∧ x < (w.alloc (.cells #[.slice none 0 0] 47)).heap.size) b [] := by
  subst hb
  exact ⟨none, 0, 0, 0, Box.fresh _ _ _, OwnL.nil _ _ _, ⟨Nat.le_refl _, by simp⟩, fun a e => by cases e⟩
set_option maxRecDepth 100000 in
set_option maxHeartbeats 4000000 in
theorem ref6New_any (A : Option Addr) (n c : Nat) (l : List Lab) (w : World) (h : Labs w w.heap.size A n l) (hn : n ≤ 1048576) (hs : ∀ i, i < n → (l.getD i noLab).s.size ≤ 1048576) :
    Calls Try.prog 11 #[.slice A n c] w (MadeR (newE [] l) w) := by
  have H := Lib.hid h
  have HL := Lib.hid h.1
  have HS := Lib.hid hs
  clear h hs
  obtain ⟨b, hb⟩ : ∃ b, b = w.heap.size := ⟨_, rfl⟩
  have HB := Lib.hid hb
  go_enter Try.func11, Try.ntmps11
  go_wp2_with fail
  rw [← hb]
  clear hb
  go_loopw [5, 6, 7] (fun i _ _ wr => ∃ (x : Nat) (acc : List Lab), x ≤ n ∧ i = .int .i64 x ∧ acc.length ≤ 4096 ∧ newE [] l = newE acc (l.drop x) ∧ RTab wr (fun x => w.heap.size ≤ x ∧ x < wr.heap.size) b acc ∧ w.grownBy wr none) (fun i _ _ _ => n - (intOf i).toNat)
  case atStart => exact ⟨0, [], by omega, rfl, by simp, by rw [List.drop_zero], rtab_new w b HB.out, World.grownBy_alloc _ _ _⟩
  case round =>
    obtain ⟨x, acc, hx, rfl, hacc, heq, hr, hg⟩ := hrel
    have HR := Lib.hid hr
    have HG := Lib.hid hg
    have HE := Lib.hid heq
    clear hr heq
    by_cases hlt : x < n
    · obtain ⟨bb, off, rfl, _, k0, k1, k2⟩ := (H.out.grow hg).at_ hlt
      have HND := Lib.hid (new_drop (acc := acc) (show x < l.length by rw [HL.out]; exact hlt))
      have HSX := Lib.hid (HS.out x hlt)
      generalize l.getD x noLab = y at *
      obtain ⟨yk, yn, ys⟩ := y
      dsimp only at k0 k1 k2 HSX
      clear hg
      have HAD := Lib.hid (ref6Add_any b _ acc yk yn ys wr HR.out hacc HSX.out)
      have HAL := Lib.hid (add_len (a := ⟨yk, yn, ys⟩) hacc)
      go_wp2_with fail
      refine HAD.out.mono ?_
      rintro e w2 ⟨rfl, hr2, hs2⟩
      have HR2 := Lib.hid hr2
      have HG2 := Lib.hid (Spare.after HG.out hs2 (fun z hz => by rw [hz, HB.out]; exact Nat.le_refl _))
      have HZ2 := Lib.hid hs2.size
      have HZ1 := Lib.hid HG.out.size
      clear hr2 hs2
      generalize addE acc ⟨yk, yn, ys⟩ = r at *
      obtain ⟨acc2, num, er⟩ := r
      dsimp only at *
      cases er with
      | zero =>
        go_wp2_with fail
        go_roundw
        case rel => exact ⟨x + 1, acc2, by omega, by go_num, HAL.out, by rw [HE.out, HND.out, if_pos rfl], HR2.out.more (fun z hz => by
          have h1 := HZ1.out
          have h2 := HZ2.out
          rcases hz with ⟨h3, h4⟩ | ⟨h3, h4⟩ <;> exact ⟨by omega, by omega⟩), HG2.out⟩
        case measure => simp [intOf]; omega
      | succ er =>
        have d1 : ((((er + 1 : Nat) : Int) != 0)) = true := by simp; omega
        go_wp2_with fail
        go_ret2
        exact .inr ⟨by rw [HE.out, HND.out, if_neg (by omega)]; omega, by rw [HE.out, HND.out, if_neg (by omega)]; rfl, HG2.out⟩
    · obtain rfl : n = x := by omega
      clear hg
      have he : newE [] l = (acc, 0) := by rw [HE.out, List.drop_of_length_le (by rw [HL.out]; exact Nat.le_refl _)]; rfl
      have HE2 := Lib.hid he
      clear he
      go_wp2_with fail
      go_ret2
      exact .inl ⟨by rw [HE2.out], b, _, rfl, by rw [HE2.out]; exact HR.out, fun _ h => h, HG.out⟩
set_option maxHeartbeats 1000000 in
theorem ref6Room_any (b : Nat) (G : Nat → Prop) (l : List Lab) (w : World) (h : RTab w G b l) (hn : l.length ≤ 4096) :
    Calls Try.prog 18 #[.pointer (some ⟨b, 0, none⟩)] w (fun e w' => e = .returned (.int .i64 (roomE l.length)) ∧ w' = w) := by
  obtain ⟨A, n, c, base, hb, ho, _, _⟩ := h
  have HL := Lib.hid ho.1
  have b0 := hb.get 0
  rw [ho.1] at hn
  clear hb ho
  go_enter Try.func18, Try.ntmps18
  go_wp2_with fail
  go_loop [3] (fun i => ∃ j m : Nat, j ≤ roomK n ∧ m = 8 * 2 ^ j ∧ i = .int .i64 (m : Int)) (fun i => 40000 - (intOf i).toNat)
  case atStart => exact ⟨0, 8, by omega, rfl, rfl⟩
  case round =>
    obtain ⟨j, m, hj, hm, rfl⟩ := hrel
    have HM := Lib.hid hm
    have HJ := Lib.hid hj
    have hsm := room_small n
    have hle : m ≤ roomE n := by
      rw [hm]; unfold roomE
      exact Nat.mul_le_mul_left 8 (Nat.pow_le_pow_right (by omega) hj)
    have hpos : 8 ≤ m := by have := Nat.two_pow_pos j; omega
    clear hm hj
    have w1 : IntKind.i64.wrap (2 * (m : Int)) = ((2 * m : Nat) : Int) := by rw [show (2 * (m : Int)) = ((2 * m : Nat) : Int) by omega]; exact IntWalk.i64_in _ (by omega)
    have w2 : IntKind.i64.wrap (3 * (n : Int)) = ((3 * n : Nat) : Int) := by rw [show (3 * (n : Int)) = ((3 * n : Nat) : Int) by omega]; exact IntWalk.i64_in _ (by omega)
    by_cases hd : 2 * m ≤ 3 * n
    · have d1 : decide (((2 * m : Nat) : Int) ≤ ((3 * n : Nat) : Int)) = true := by simp only [decide_eq_true_eq]; omega
      have HGO := Lib.hid (room_go HJ.out (by rw [← HM.out]; exact hd))
      go_wp2_with fail
      go_round
      case rel => exact ⟨j + 1, 2 * m, HGO.out, by rw [HM.out, Nat.pow_succ]; omega, rfl⟩
      case measure => simp [intOf]; omega
    · have d1 : decide (((2 * m : Nat) : Int) ≤ ((3 * n : Nat) : Int)) = false := by simp only [decide_eq_false_iff_not]; omega
      have HST := Lib.hid (room_stop HJ.out (by rw [← HM.out]; exact hd))
      go_wp2_with fail
      go_ret
      exact ⟨by rw [HL.out, ← HST.out, ← HM.out]; rfl, rfl⟩
end Go.Proofs.Ytfemfkiamipipaa
