/-
  Layer 6: the program's own double: twice as many slots, all labels laid anew.
-/
import Derived.Test.YtfemfkiamipipaaLookO6
namespace Go.Proofs.Ytfemfkiamipipaa
open Go.ChangeShapes Go.WideShapes Go.ChangeAt Go.RowKit
set_option linter.unusedVariables false

theorem info_int6 : (Try.prog.info? 3).map (fun i => (i.zero, i.size, i.bytes)) = some (some (.int .i64 0), 1, 8) := by kernel_rfl
theorem make_ints6 (m : Nat) (hm : m ≤ 2097152) : ∃ Z : Array Value, Z.toList = List.replicate m (.int .i64 0) ∧
    ∀ W : World, (Instr.makeSlice 54 (.int .i64 (m : Int)) (.int .i64 (m : Int))).run Try.prog W = .ok (.slice (some ⟨W.heap.size, 0, none⟩) m m) (W.alloc (.cells Z 3)) := by
  obtain ⟨i0, hi, hz0, hz1, hz2⟩ := info_parts info_int6
  have hZ : (madeCells (Value.int .i64 0).cells (m * i0.size)).toList = List.replicate m (.int .i64 0) := by rw [hz1]; exact zeros_of6 _ rfl m
  refine ⟨madeCells (Value.int .i64 0).cells (m * i0.size), hZ, fun W => ?_⟩
  have h := run_make (P := Try.prog) W 54 3 i0 _ Try.underlying54 hi hz0 .i64 .i64 (m : Int) (m : Int) (by omega) (by omega) (by rw [hz2]; omega) (by omega)
  simpa using h
theorem slots_zero {R : Nat} {hs : Nat → Nat} {Z : Array Value} (h : Z.toList = List.replicate R (.int .i64 0)) : ∀ x, x < R → Z[x]? = some (.int .i64 (tabE R hs 0 x : Nat)) := fun k hk => by
  rw [← Array.getElem?_toList, h, List.getElem?_replicate, if_pos hk]; rfl
set_option maxRecDepth 100000 in
set_option maxHeartbeats 2000000 in
theorem ownDouble_any (b g : Nat) (A : Option Addr) (c R : Nat) (Z : Array Value) (L : List Lab) (k : Nat) (w : World) (h : TabI w b g A c R Z L k) (hL : L.length ≤ 4096) (hoks : Oks L) (hLR : L.length < 2 * R) (hR1 : 2 * R ≤ 20000) :
    Calls Try.prog 31 #[.pointer (some ⟨b, 0, none⟩)] w fun e w' => (∃ v, e = .returned v) ∧ (∃ Z', TabI w' b w.heap.size A c (2 * R) Z' L L.length) ∧ w.grownBy w' (some b) ∧ w.heap.size < w'.heap.size := by
  obtain ⟨hb, ho, hz, _⟩ := h
  obtain ⟨M, hM⟩ : ∃ M, M = 2 * R := ⟨_, rfl⟩
  rw [← hM] at hLR hR1 ⊢
  obtain ⟨Z0, hZ0, hmk⟩ := make_ints6 M (by omega)
  have m1 : IntKind.i64.wrap (2 * (R : Int)) = (M : Int) := by rw [show (2 * (R : Int)) = (M : Int) by omega]; exact IntWalk.i64_in _ (by omega)
  have m2 : 2 * (R : Int) = (M : Int) := by omega
  have HAP := Lib.hid (own_apart ho.2 hb (by decide))
  have bs := hb.small
  obtain ⟨w1, hw1⟩ : ∃ w1, w1 = w.setCell ⟨b, 2, none⟩ (.slice (some ⟨w.heap.size, 0, none⟩) M M) := ⟨_, rfl⟩
  have HW1 := Lib.hid hw1
  have HS1 := Lib.hid (show w.grownBy w1 (some b) by rw [hw1]; exact grown_put (grown_refl _ _) (.inl rfl) _)
  have HZS := Lib.hid (show w1.heap.size = w.heap.size by rw [hw1]; simp)
  have HB1 := Lib.hid (show Box w1 b 56 #[.pointer (some ⟨b, 0, none⟩), .slice A L.length c, .slice (some ⟨w.heap.size, 0, none⟩) M M] by rw [hw1]; exact hb.put 2 _)
  have HO1 := Lib.hid (show OwnL w1 0 38 A L.length c L from ⟨rfl, (Spare.of_row (F := fun z => z = b) HS1.out rfl).own ho.2 (fun z hz2 hzg => HAP.out (by rw [hz2, hzg]))⟩)
  obtain ⟨w2, hw2⟩ : ∃ w2, w2 = w1.alloc (.cells Z0 3) := ⟨_, rfl⟩
  have HW2 := Lib.hid hw2
  have HG2 := Lib.hid (show w.grownBy w2 (some b) by rw [hw2]; exact grown_alloc HS1.out _)
  have HT2 := Lib.hid (show TabI w2 b w.heap.size A c M Z0 L 0 from ⟨by rw [hw2]; exact HB1.out.alloc _, by rw [hw2]; exact HO1.out.grow (World.grownBy_alloc _ _ _), by rw [hw2, ← HZS.out]; exact Box.fresh _ _ _, slots_zero hZ0⟩)
  have t0 := hb.get 2
  have tf := hb.free 2
  have u1 := HT2.out.1.get 1
  have HSZ := Lib.hid (show w.heap.size < w2.heap.size by rw [hw2]; simp [HZS.out])
  clear hw1 hw2 ho hz hb hZ0 hM
  go_enter Try.func31, Try.ntmps31
  go_upto_region 1 with fail
  rw [← HW1.out, ← HW2.out]
  clear tf t0
  go_wp2_with fail
  clear u1
  go_loopw [18] (fun i wr => ∃ (x : Nat) (Z' : Array Value), x ≤ L.length ∧ i = .int .i64 x ∧ TabI wr b w.heap.size A c M Z' L x ∧ w.grownBy wr (some b) ∧ w.heap.size < wr.heap.size) (fun i _ => L.length - (intOf i).toNat)
  case atStart => exact ⟨0, Z0, by omega, rfl, HT2.out, HG2.out, HSZ.out⟩
  case round =>
    obtain ⟨x, Z', hx, rfl, ht, hg, hsz⟩ := hrel
    have HG := Lib.hid hg
    have HT := Lib.hid ht
    have HS := Lib.hid hsz
    clear hg hsz ht
    by_cases hlt : x < L.length
    · have HLY := Lib.hid (ownLay_any b w.heap.size A c M Z' L x wr HT.out hlt hL hoks (by omega) hR1)
      go_wp2_with fail
      refine HLY.out.mono ?_
      rintro e w3 ⟨⟨v, rfl⟩, ⟨Z3, ht3⟩, hg3⟩
      have HT3 := Lib.hid ht3
      have HG3 := Lib.hid (grown_join HG.out hg3 (.inr fun z e => by injection e with e; rw [e]; exact Nat.le_refl _))
      have HS3 := Lib.hid (Nat.lt_of_lt_of_le HS.out hg3.size)
      clear ht3 hg3
      go_wp2_with fail
      go_roundw
      case rel => exact ⟨x + 1, Z3, by omega, by go_num, HT3.out, HG3.out, HS3.out⟩
      case measure => simp [intOf]; omega
    · obtain rfl : x = L.length := by omega
      go_wp2_with fail
      go_end0
      exact ⟨⟨_, rfl⟩, ⟨Z', HT.out⟩, HG.out, HS.out⟩
end Go.Proofs.Ytfemfkiamipipaa
