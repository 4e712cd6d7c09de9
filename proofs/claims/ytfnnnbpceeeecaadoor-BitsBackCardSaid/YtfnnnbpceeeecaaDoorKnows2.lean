/-
  Bytes as a string; what must come ('knows' of layer 2).
-/
import Derived.Test.YtfnnnbpceeeecaaDoorMix
namespace Go.Proofs.YtfnnnbpceeeecaaDoor
open Go.ChangeShapes Go.WideShapes Go.ChangeAt Go.RowKit
set_option linter.unusedVariables false

def strU (f : Nat → Nat) (n : Nat) : ByteArray := ⟨((List.range n).map fun i => UInt8.ofNat (f i)).toArray⟩
theorem str_of (A : Option Addr) (n c : Nat) (f : Nat → Nat) (B : Nat) (w : World) (h : Sees w B A n fun k => .int .u8 ((f k : Nat) : Int)) (hf : ∀ k, k < n → f k < 256) :
    (convert 39 9 (.slice A n c)).run Tryd.prog w = .ok (.string (strU f n)) w := by
  rcases Nat.eq_zero_or_pos n with h0 | h0
  · subst h0
    cases A with
    | none => rw [run_convert_bytes_string w 39 9 5 none 0 c Tryd.underlying39 Tryd.underlying5 Tryd.underlying9]; rfl
    | some a => exact run_convert_bytes_back (P := Tryd.prog) w 39 9 5 a c [] Tryd.underlying39 Tryd.underlying5 Tryd.underlying9 (fun j hj => absurd hj (by simp))
  · obtain ⟨b, off, rfl, _, hc⟩ := h h0
    have hl : ((List.range n).map fun i => UInt8.ofNat (f i)).length = n := by simp
    have := run_convert_bytes_back (P := Tryd.prog) w 39 9 5 ⟨b, off, none⟩ c ((List.range n).map fun i => UInt8.ofNat (f i)) Tryd.underlying39 Tryd.underlying5 Tryd.underlying9 (fun j hj => by
      rw [hl] at hj
      rw [Addr.add_lit, hc j hj]
      have := hf j hj
      simp
      omega)
    rw [hl] at this
    exact this

def l101 : List Bool := [true, false, true]
theorem bools_101 (w : World) : Bools (w.alloc (.cells #[.bool true, .bool false, .bool true] 4)) (w.alloc (.cells #[.bool true, .bool false, .bool true] 4)).heap.size (some ⟨w.heap.size, 0, none⟩) 3 l101 := by
  refine ⟨rfl, fun _ => ⟨w.heap.size, 0, rfl, by simp, fun k hk => ?_⟩⟩
  rw [cell_of_row _ _ _ _ _ _ (heap_alloc_new w _)]
  match k, hk with
  | 0, _ => rfl
  | 1, _ => rfl
  | 2, _ => rfl
theorem str_101 : strU (byteL l101) (nb l101) = ⟨#[5]⟩ := by decide
theorem byteV_sees {w : World} {base n c : Nat} {A : Option Addr} {f : Nat → Nat} (h : w.ownsRow base 5 1 (.slice A n c) n (byteV f n)) : Sees w w.heap.size A n fun k => .int .u8 ((f k : Nat) : Int) := fun h0 => by
  obtain ⟨r, rfl, _, hl, _, _⟩ := own_form h h0
  refine ⟨r, 0, rfl, hl, fun j hj => ?_⟩
  rw [Nat.zero_add, h.cellAt j (by omega)]
  exact byteV_get f n j hj
theorem Tab.grown {w w' : World} {r : Option Nat} (h : Tab w) (hg : w.grownBy w' r) (h0 : r ≠ some 0) : Tab w' := fun j hj =>
  (World.cell?_of_block (hg.block 0 (World.block_lt_of_cell? w _ (h j hj)) (fun e => h0 e.symm))).trans (h j hj)
theorem cnt_101 : cnt l101 = 2 := by decide
theorem tr_101 : tr l101 2 = true := by decide
theorem next_101 : IsNext l101 (0 : Int).toNat false 1 := by
  refine ⟨by decide, fun i _ hi => ?_, fun _ => ⟨by decide, by decide⟩⟩
  obtain rfl : i = 0 := by omega
  rfl
set_option maxHeartbeats 1000000 in
theorem knows_any (w : World) (hT : Tab w) : Calls Tryd.prog 7 #[] w fun e w' => e = .returned (.bool true) ∧ w.grownBy w' none := by
  have HT := Lib.hid hT
  have HB := Lib.hid (bools_101 w)
  clear hT
  go_enter Tryd.func7, Tryd.ntmps7
  go_wp2_with fail
  refine (of_any _ 3 3 l101 _ HB.out (by omega)).mono ?_
  rintro e w1 ⟨g, A, k, c, rfl, hm, hg⟩
  have HM := Lib.hid hm
  have HG := Lib.hid (grown_join (World.grownBy_alloc w _ none) hg (.inr (by simp)))
  clear hm hg
  go_wp2_with fail
  refine (bytes_any _ l101 0 w1 (HM.out.lower (Nat.zero_le _)).p (Nat.zero_le _)).mono ?_
  rintro e w2 ⟨A2, c2, rfl, ho, hg⟩
  have hstr := str_of A2 (nb l101) c2 (byteL l101) _ w2 (byteV_sees ho) (fun k _ => byteL_lt _ _)
  rw [str_101] at hstr
  have HG2 := Lib.hid (grown_join HG.out hg (.inr (by simp)))
  have HM2 := Lib.hid (HM.out.grow hg)
  clear ho hg
  generalize nb l101 = n2 at *
  go_wp2_with fail
  refine (count_any _ l101 _ w2 HM2.out.p).mono ?_
  rintro e w3 ⟨rfl, hww⟩
  subst hww
  rw [cnt_101]
  go_wp2_with fail
  refine (get_any _ l101 2 _ w3 HM2.out.p).mono ?_
  rintro e w4 ⟨rfl, hww⟩
  subst hww
  rw [tr_101]
  go_wp2_with fail
  refine (next_any _ l101 0 false ⟨by omega, by omega⟩ _ w4 HM2.out.p (HT.out.grown HG2.out (by simp))).mono ?_
  rintro e w5 ⟨r, hr, rfl, m, hww⟩
  subst hww
  obtain rfl : 1 = r := next_101.one hr
  clear hr
  go_wp2_with fail
  go_ret
  exact ⟨rfl, grown_drewN HG2.out m⟩
end Go.Proofs.YtfnnnbpceeeecaaDoor
