/-
  Layer 6: the reference's Hash.
-/
import Derived.Test.YtfemfkiamipipaaHashM6
import Derived.Test.YtfemfkiamipipaaRef5e
namespace Go.Proofs.Ytfemfkiamipipaa
open Go.ChangeShapes Go.WideShapes Go.ChangeAt Go.RowKit
set_option linter.unusedVariables false

/-- numbers as bytes' cells. -/
def octV (l : List Int) : List Value := l.map (.int .u8)
theorem octV_length (l : List Int) : (octV l).length = l.length := by simp [octV]
theorem octV_snoc (l : List Int) (b : Int) : octV (l ++ [b]) = octV l ++ [.int .u8 b] := by simp [octV]
theorem octV_get (l : List Int) {k : Nat} (hk : k < l.length) : (octV l)[k]? = some (.int .u8 (l.getD k 0)) := by simp [octV, List.getD, hk]
theorem octV_take (l : List Int) {k : Nat} (hk : k < l.length) : octV (l.take (k + 1)) = octV (l.take k) ++ [.int .u8 (l.getD k 0)] := by
  rw [List.take_succ_eq_append_getElem hk, octV_snoc]
  simp [List.getD, hk]
theorem octV_all (a : Lab) : octV (hashL a) = octV ((hashL a).take 9) ++ Lib.strCells a.s := by
  simp [octV, hashL, Lib.strCells]
theorem box_past1 {w w1 : World} {g B n : Nat} {t : TypeId} {cs : Array Value} {v : Value} {xs : List Value} (hb : Box w g t cs) (ho : w.ownsRow B 5 1 v n xs) (hne : 5 ≠ t) (hg : w.grownBy w1 v.ownBlock) : Box w1 g t cs := hb.grown hg (Ne.symm (own_apart ho hb hne))
set_option maxRecDepth 100000 in
set_option maxHeartbeats 4000000 in
theorem ref5Hash_any (ak an : Int) (as' : ByteArray) (w : World) (h0 : 0 ≤ ak) (h1 : ak < 256) (h2 : -9223372036854775808 ≤ an) (h3 : an < 9223372036854775808) (hs : as'.size ≤ 1048576) :
    Calls Try.prog 34 #[.agg #[.int .u8 ak, .int .i64 an, .string as']] w (ToldG (.int .u64 (hashI ⟨ak, an, as'⟩)) w) := by
  obtain ⟨a, ha⟩ : ∃ a : Lab, a = ⟨ak, an, as'⟩ := ⟨_, rfl⟩
  rw [← ha]
  have HSZ := Lib.hid (show a.s = as' by rw [ha])
  have HLN := Lib.hid (show (hashL a).length = 9 + as'.size by rw [hashL_length, HSZ.out])
  have HST := Lib.hid (fun j (hj : j < 9 + as'.size) => hashTo_step a (j := j) (by rw [HSZ.out]; exact hj))
  have HRA := Lib.hid (fun j => hashL_range (a := a) (by rw [ha]; exact h0) (by rw [ha]; exact h1) j)
  have HK := Lib.hid (show octV ((hashL a).take (1 + 0)) = [.int .u8 ak] by rw [ha]; rfl)
  obtain ⟨u, hu⟩ : ∃ u : Nat, an % 18446744073709551616 = (u : Int) := ⟨(an % 18446744073709551616).toNat, by omega⟩
  have hul : u < 18446744073709551616 := by omega
  have hx : IntKind.u64.wrap an = (u : Int) := by rw [IntKind.wrap_u64]; exact hu
  have HLO := Lib.hid (fun j (hj : j < 8) => show octV ((hashL a).take (1 + (j + 1))) = octV ((hashL a).take (1 + j)) ++ [.int .u8 ((u : Int) / 2 ^ (8 * j) % 256)] by
    rw [show 1 + (j + 1) = j + 1 + 1 by omega, show 1 + j = j + 1 by omega, octV_take _ (by rw [HLN.out]; omega), hashL_low a hj, low_u hu hj, ha])
  have HTX := Lib.hid (show octV (hashL a) = octV ((hashL a).take (1 + 8)) ++ Lib.strCells as' by rw [octV_all, HSZ.out])
  have HAL := Lib.hid (show hashTo a (9 + as'.size) = hashI a by rw [← HSZ.out]; exact hashTo_all a)
  have HIN := Lib.hid (info_parts info_pu8)
  obtain ⟨w1, hw1⟩ : ∃ w1, w1 = w.alloc (.cells #[.int .u8 ak, .int .i64 an, .string as'] 39) := ⟨_, rfl⟩
  have HG1 := Lib.hid (show w.grownBy w1 none by rw [hw1]; exact World.grownBy_alloc _ _ _)
  have HX := Lib.hid (show Box w1 w.heap.size 39 #[.int .u8 ak, .int .i64 an, .string as'] by rw [hw1]; exact Box.fresh _ _ _)
  have HW1 := Lib.hid hw1
  clear ha hw1 hu h0 h1 h2 h3
  go_enter Try.func34, Try.ntmps34
  go_upto_region 1 with fail
  rw [← HW1.out]
  have x0 := HX.out.get 0
  have x1 := HX.out.get 1
  have x2 := HX.out.get 2
  have HO0 := Lib.hid (World.ownsRow_lit w1 #[.int .u8 ak] 1 (Nat.le_refl _) (by unfold maxLen; omega) (e := 5) (size := 1) rfl)
  go_wp2_with fail
  go_loopw [3, 4] (fun v i wr => ∃ j : Nat, j ≤ 8 ∧ i = .int .i64 j ∧ wr.ownsRow w1.heap.size 5 1 v (1 + j) (octV ((hashL a).take (1 + j))) ∧ Box wr w.heap.size 39 #[.int .u8 ak, .int .i64 an, .string as'] ∧ w1.grownBy wr none) (fun _ i _ => 8 - (intOf i).toNat)
  case atStart => exact ⟨0, by omega, rfl, by rw [HK.out]; exact HO0.out, HX.out.alloc _, World.grownBy_alloc _ _ _⟩
  case round =>
    obtain ⟨j, hj, rfl, ho, hb, hg⟩ := hrel
    have HO := Lib.hid ho
    have HB := Lib.hid hb
    have HG := Lib.hid hg
    have HSW := Lib.hid hg.size
    obtain ⟨A3, c3, rfl⟩ := own_slice3 ho
    clear ho hb hg x0 x1 x2
    have x0 := HB.out.get 0
    have x1 := HB.out.get 1
    have x2 := HB.out.get 2
    by_cases h8 : j < 8
    · have d1 : decide ((j : Int) < 8) = true := by simp; omega
      go_wp2_with (at_builtin; obtain ⟨i0, hi, hz0, hz1, hz2⟩ := HIN.out; refine wpList_append_own_at _ rfl (.tmp 14) (.tmp 22) _ rfl w1.heap.size 5 i0 _ 1 1 Try.underlying72 hi hz0 hz1 hz2 rfl (by omega) (.slice A3 (1 + j) c3) (1 + j) _ rfl (HO.out.alloc _) ⟨_, 0, none⟩ 1 1 [.int .u8 ((u : Int) / 2 ^ (8 * j) % 256)] rfl rfl (cell_one_new _ _ _) (by intro y hy; simp at hy; subst hy; rfl) (by simp only [maxLen]; omega) (by omega) (by have := HSW.out; simp; omega) ?_; intro v4 w4 hown4 hg4 _ _; have HO4 := Lib.hid hown4; have HG4 := Lib.hid hg4; clear hown4 hg4 hi hz0 hz1 hz2)
      have HB4 := Lib.hid (box_past1 (HB.out.alloc (.cells #[.int .u8 ((u : Int) / 2 ^ (8 * j) % 256)] 5)) (HO.out.alloc _) (by decide) HG4.out)
      go_roundw
      case rel => exact ⟨j + 1, by omega, by go_num, by rw [HLO.out j h8]; exact HO4.out, HB4.out, grown_join (grown_alloc HG.out _) HG4.out (.inr fun b hb => (HO.out.lt b hb).1)⟩
      case measure => simp [intOf]; omega
    · obtain rfl : j = 8 := by omega
      have d1 : decide (((8 : Nat) : Int) < 8) = false := by decide
      go_wp2_with (at_builtin; obtain ⟨i0, hi, hz0, hz1, hz2⟩ := HIN.out; refine Lib.wpList_append_own_string _ rfl (.tmp 24) (.tmp 26) _ _ rfl w1.heap.size 5 i0 Try.underlying72 Try.underlying9 hi hz0 hz1 hz2 (.slice A3 (1 + 8) c3) (1 + 8) _ rfl HO.out as' rfl (by simp only [maxLen]; omega) (by omega) HSW.out ?_; intro v3 w3 hown3 hg3 _; have HO3 := Lib.hid hown3; have HG3 := Lib.hid hg3; clear hown3 hg3 hi hz0 hz1 hz2)
      rw [← HTX.out] at HO3
      obtain ⟨A5, c5, rfl⟩ := own_slice3 HO3.out
      obtain ⟨g, rfl, _, _, _, _⟩ := own_form HO3.out (by omega)
      have HGE := Lib.hid (grown_join HG1.out (grown_join HG.out HG3.out (.inr fun b hb => (HO.out.lt b hb).1)) (.inr (by simp)))
      clear x0 x1 x2
      obtain ⟨m, hm⟩ : ∃ m, m = 9 + as'.size := ⟨_, rfl⟩
      have hm9 : 1 + 8 + as'.size = m := by omega
      rw [hm9] at HO3 ⊢
      have hmb : m ≤ 1048600 := by omega
      have HM := Lib.hid hm
      clear hm hm9
      go_loop [5, 6] (fun h i => ∃ k : Nat, k ≤ m ∧ i = .int .i64 k ∧ h = .int .u64 (hashTo a k)) (fun _ i => m - (intOf i).toNat)
      case atStart => exact ⟨0, by omega, rfl, rfl⟩
      case round =>
        obtain ⟨k, hk, rfl, rfl⟩ := hrel
        by_cases hkm : k < m
        · have d1 : decide ((k : Int) < (m : Int)) = true := by simp; omega
          have hcell : w3.cell? ⟨g, k, none⟩ = some (.int .u8 ((hashL a).getD k 0)) := by
            rw [HO3.out.cellAt k (by omega), octV_get _ (by rw [HLN.out, ← HM.out]; exact hkm)]
          have HS1 := Lib.hid (HST.out k (by rw [← HM.out]; exact hkm))
          have HR1 := HRA.out k
          have hwr := IntWalk.u64_in ((hashL a).getD k 0) (by omega)
          have HMI := Lib.hid (show mixI (hashTo a k) ((hashL a).getD k 0) = IntKind.u64.wrap (bits .xor .u64 (hashTo a k) ((hashL a).getD k 0) * 1099511628211) from rfl)
          generalize (hashL a).getD k 0 = bb at *
          have HHT := Lib.hid (show hashTo a k = hashTo a k from rfl)
          generalize hashTo a k = hh at *
          clear HR1
          go_wp2_with fail
          go_round
          case rel => exact ⟨k + 1, by omega, by go_num, by rw [HS1.out, HMI.out]⟩
          case measure => simp [intOf]; omega
        · obtain rfl : m = k := by omega
          have d1 : decide ((m : Int) < (m : Int)) = false := by simp
          go_wp2_with fail
          go_ret
          exact toldG_eq (by rw [← HAL.out, ← HM.out]; rfl) HGE.out
end Go.Proofs.Ytfemfkiamipipaa
