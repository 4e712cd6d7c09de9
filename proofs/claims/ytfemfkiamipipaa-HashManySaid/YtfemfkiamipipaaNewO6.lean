/-
  Layer 6: the program's own New.
-/
import Derived.Test.YtfemfkiamipipaaAddO6
namespace Go.Proofs.Ytfemfkiamipipaa
open Go.ChangeShapes Go.WideShapes Go.ChangeAt Go.RowKit
set_option linter.unusedVariables false

theorem otab_new {w w2 : World} {Z0 : Array Value} (hZ0 : Z0.toList = List.replicate 8 (.int .i64 0)) (h : w2 = (w.alloc (.cells Z0 3)).alloc (.cells #[.pointer (some ⟨w.heap.size + 1, 0, none⟩), .slice none 0 0, .slice (some ⟨w.heap.size, 0, none⟩) 8 8] 56)) :
    OTab w2 (fun z => w.heap.size ≤ z ∧ z < w2.heap.size) ⟨w.heap.size + 1, 0, none⟩ [] := by
  subst h
  have e1 : (w.alloc (.cells Z0 3)).heap.size = w.heap.size + 1 := by simp
  refine ⟨w.heap.size + 1, w.heap.size, none, 0, Z0, rfl, ⟨?_, OwnL.nil _ _ _, (Box.fresh w _ _).alloc _, slots_zero hZ0⟩, good_nil, fun i hi => absurd hi (by simp), ⟨by omega, by simp⟩, ⟨by omega, by simp; omega⟩, fun a e => by cases e⟩
  have := Box.fresh (w.alloc (.cells Z0 3)) 56 #[.pointer (some ⟨w.heap.size + 1, 0, none⟩), .slice none 0 0, .slice (some ⟨w.heap.size, 0, none⟩) 8 8]
  rw [e1] at this
  exact this
set_option maxRecDepth 100000 in
set_option maxHeartbeats 2000000 in
theorem ownNew_any (A : Option Addr) (n c : Nat) (l : List Lab) (w : World) (h : Labs w w.heap.size A n l) (hn : n ≤ 1048576) (hs : ∀ i, i < n → okL (l.getD i noLab)) :
    Calls Try.prog 9 #[.slice A n c] w (MadeO OTab (newE [] l) w) := by
  obtain ⟨Z0, hZ0, hmk⟩ := make_ints6 8 (by omega)
  have hmk : ∀ W : World, (Instr.makeSlice 54 (.int .i64 8) (.int .i64 8)).run Try.prog W = .ok (.slice (some ⟨W.heap.size, 0, none⟩) 8 8) (W.alloc (.cells Z0 3)) := hmk
  have H := Lib.hid h
  have HL := Lib.hid h.1
  have HS := Lib.hid hs
  have HZ0 := Lib.hid hZ0
  clear h hs hZ0
  go_enter Try.func9, Try.ntmps9
  go_upto_region 3 with fail
  obtain ⟨w2, hw2⟩ : ∃ w2, w2 = (w.alloc (.cells Z0 3)).alloc (.cells #[.pointer (some ⟨w.heap.size + 1, 0, none⟩), .slice none 0 0, .slice (some ⟨w.heap.size, 0, none⟩) 8 8] 56) := ⟨_, rfl⟩
  have HT2 := Lib.hid (otab_new HZ0.out hw2)
  have HG2 := Lib.hid (show w.grownBy w2 none by rw [hw2]; exact grown_alloc (grown_alloc (grown_refl _ _) _) _)
  rw [← hw2]
  clear hw2 hmk
  obtain ⟨b, hb⟩ : ∃ b, b = w.heap.size + 1 := ⟨_, rfl⟩
  rw [← hb] at HT2 ⊢
  have HBB := Lib.hid hb
  clear hb
  go_wp2_with fail
  go_loopw [18] (fun i wr => ∃ (x : Nat) (acc : List Lab), x ≤ n ∧ i = .int .i64 x ∧ newE [] l = newE acc (l.drop x) ∧ OTab wr (fun z => w.heap.size ≤ z ∧ z < wr.heap.size) ⟨b, 0, none⟩ acc ∧ w.grownBy wr none) (fun i _ => n - (intOf i).toNat)
  case atStart => exact ⟨0, [], by omega, rfl, by rw [List.drop_zero], HT2.out, HG2.out⟩
  case round =>
    obtain ⟨x, acc, hx, rfl, heq, hr, hg⟩ := hrel
    have HR := Lib.hid hr
    have HG := Lib.hid hg
    have HE := Lib.hid heq
    clear hr heq
    by_cases hlt : x < n
    · obtain ⟨bb, off, rfl, _, k0, k1, k2⟩ := (H.out.grow hg).at_ hlt
      have HND := Lib.hid (new_drop (acc := acc) (show x < l.length by rw [HL.out]; exact hlt))
      have HSX := Lib.hid (HS.out x hlt)
      generalize l.getD x noLab = y at *
      obtain ⟨yk, yn, ys⟩ := y
      dsimp only at k0 k1 k2 HSX
      clear hg
      obtain ⟨w3, hw3⟩ : ∃ w3, w3 = wr.alloc (.cells #[.int .u8 yk, .int .i64 yn, .string ys] 38) := ⟨_, rfl⟩
      have HW3 := Lib.hid hw3
      have HG3 := Lib.hid (show wr.grownBy w3 none by rw [hw3]; exact World.grownBy_alloc _ _ _)
      have HAD := Lib.hid (ownAdd_any _ _ acc yk yn ys w3 (HR.out.grow HG3.out) HSX.out)
      clear hw3
      go_wp2_with fail
      rw [← HW3.out]
      refine HAD.out.mono ?_
      rintro e w4 ⟨rfl, hr2, hs2⟩
      have HR2 := Lib.hid hr2
      have HGX := Lib.hid (grown_join HG.out HG3.out (.inr (by simp)))
      have HG4 := Lib.hid (Spare.after HGX.out hs2 (fun z hz => hz.1))
      have HZ3 := Lib.hid HG3.out.size
      have HZ4 := Lib.hid hs2.size
      have HZ1 := Lib.hid HG.out.size
      clear hr2 hs2
      generalize addE acc ⟨yk, yn, ys⟩ = r at *
      obtain ⟨acc2, num, er⟩ := r
      dsimp only at *
      cases er with
      | zero =>
        go_wp2_with fail
        go_roundw
        case rel => exact ⟨x + 1, acc2, by omega, by go_num, by rw [HE.out, HND.out, if_pos rfl], HR2.out.more (fun z hz => by
          have h1 := HZ1.out
          have h2 := HZ3.out
          have h3 := HZ4.out
          rcases hz with ⟨h3, h4⟩ | ⟨h3, h4⟩ <;> exact ⟨by omega, by omega⟩), HG4.out⟩
        case measure => simp [intOf]; omega
      | succ er =>
        have d1 : ((((er + 1 : Nat) : Int) != 0)) = true := by simp; omega
        go_wp2_with fail
        go_ret2
        exact .inr ⟨by rw [HE.out, HND.out, if_neg (by omega)]; omega, by rw [HE.out, HND.out, if_neg (by omega)]; rfl, HG4.out⟩
    · obtain rfl : n = x := by omega
      clear hg
      have he : newE [] l = (acc, 0) := by rw [HE.out, List.drop_of_length_le (by rw [HL.out]; exact Nat.le_refl _)]; rfl
      have HE2 := Lib.hid he
      clear he
      go_wp2_with fail
      go_ret2
      exact .inl ⟨by rw [HE2.out], ⟨b, 0, none⟩, _, rfl, by rw [HE2.out]; exact HR.out, fun _ h => h, HG.out⟩
end Go.Proofs.Ytfemfkiamipipaa
