/-
  Layer 7, the program's own: Strides.
-/
import Derived.Test.YtkpfhjjojchdlaaShp7a
import Derived.Test.YtkpfhjjojchdlaaWhl7
namespace Go.Proofs.Ytkpfhjjojchdlaa
open Go.ChangeShapes Go.WideShapes Go.ChangeAt Go.RowKit
set_option linter.unusedVariables false
set_option maxRecDepth 100000

/-- the strides, as far as they are known: of the last x + 1 axes. -/
def partE (s : List Int) (n x : Nat) : List Int := tabI7 n fun j => if n - 1 - j ≤ x then strE s (n - 1 - j) else 1
theorem part_start (s : List Int) (n : Nat) : tabI7 n (fun _ => 1) = partE s n 0 := tabI_congr7 fun i hi => by
  by_cases h : n - 1 - i ≤ 0
  · rw [if_pos h, show n - 1 - i = 0 by omega]; rfl
  · rw [if_neg h]
theorem part_length (s : List Int) (n x : Nat) : (partE s n x).length = n := tabI_length7 _ _
theorem part_get (s : List Int) (n x y : Nat) (hy : y < n) (hx : n - 1 - y = x) : (partE s n x).getD y 0 = strE s x := by
  unfold partE
  rw [tabI_get7 _ _ _ hy, if_pos (by omega), hx]
theorem part_put (s : List Int) (n x y : Nat) (hy : n - 1 - y = x + 1) : (partE s n x).set y (strE s (x + 1)) = partE s n (x + 1) := by
  unfold partE
  rw [tabI_set7]
  refine tabI_congr7 fun i hi => ?_
  by_cases e : i = y
  · rw [if_pos e, if_pos (by omega), show n - 1 - i = x + 1 by omega]
  · rw [if_neg e]
    by_cases h : n - 1 - i ≤ x
    · rw [if_pos h, if_pos (by omega)]
    · rw [if_neg h, if_neg (by omega)]
theorem part_end (s : List Int) (n x : Nat) (hn : s.length = n) (hx : n ≤ x + 1) (hb : strB s = true) : partE s n x = stridesL s := by
  unfold stridesL partE
  rw [if_pos hb, hn]
  unfold tabI7
  apply List.map_congr_left
  intro i hi
  rw [List.mem_range] at hi
  rw [if_pos (by omega)]
theorem prod_two (a b : Int) : prodL [a, b] = a * b := by simp [prodL]
theorem two_ints (w : World) (x y : Int) : Ints (w.alloc (.cells #[.int .i64 x, .int .i64 y] 3)) (some ⟨w.heap.size, 0, none⟩) 2 [x, y] := (lit_numsF w [x, y] (by simp)).1.ints
theorem GaveInts.of {zs zs' : List Int} {w w' : World} {A : Option Addr} {n c : Nat} (hz : zs' = zs) (hn : zs.length = n) (ho : OwnI w' w.heap.size A n c zs') (hg : w.grownBy w' none) : GaveInts zs w (.returned (.slice A n c)) w' := by
  subst hz; subst hn; exact ⟨A, c, rfl, ho, hg⟩
theorem OwnI.of_len {w : World} {base : Nat} {A : Option Addr} {zs : List Int} {n : Nat} (h : OwnI w base A zs.length zs.length zs) (hn : zs.length = n) : OwnI w base A n n zs := by subst hn; exact h
set_option maxHeartbeats 2000000 in
theorem own7_strides (A : Option Addr) (n c : Nat) (s : List Int) (w : World) (h : Nums w w.heap.size A n s) (hn : n ≤ 1048576) :
    Calls Try.prog 39 #[.slice A n c] w (GaveInts (stridesL s) w) := by
  have HR := Lib.hid (own7_right A n c _ s w h hn)
  have H := Lib.hid h
  have HL := Lib.hid h.1
  clear h
  have HNO := Lib.hid (show strB s = false → stridesL s = [] from fun hb => by unfold stridesL; rw [hb]; rfl)
  cases hr : rightS s with
  | false =>
    rw [hr] at HR
    have HBF := Lib.hid (show strB s = false by unfold strB; rw [hr]; rfl)
    have HE := Lib.hid (HNO.out HBF.out)
    clear hr
    go_enter Try.func39, Try.ntmps39
    go_wp2_with fail
    refine HR.out.mono ?_
    rintro e w1 ⟨rfl, rfl⟩
    go_wp2_with fail
    go_ret
    exact GaveInts.of HE.out.symm (by rw [HE.out]; rfl) (OwnI.nil _ _) (grown_refl _ _)
  | true =>
    rw [hr] at HR
    have hn6 : n ≤ 6 := by rw [← HL.out]; exact (right_all hr).2
    have HST := Lib.hid (show ∀ j, strE s (j + 1) = strE s j * max 1 (s.getD (n - 1 - j) 0) from fun j => by rw [strE, HL.out])
    have HSB := Lib.hid (show ∀ b, decide (strE s (n - 1) ≤ 1048576) = b → strB s = b from fun b hb => by unfold strB; rw [hr, HL.out, hb]; rfl)
    have HRA := Lib.hid (fun i hi => right_at hr (i := i) hi)
    clear hr
    go_enter Try.func39, Try.ntmps39
    go_wp2_with fail
    refine HR.out.mono ?_
    rintro e w1 ⟨rfl, rfl⟩
    go_wp2_with fail
    refine (repeat4_one7 _ 0 1 n _ (one7 w1 1) (by simp) hn).mono ?_
    rintro e w3 ⟨rfl, hW, hg⟩
    rw [part_start s n] at hW
    have hsz : (w1.alloc (.cells #[.int .i64 1] 3)).heap.size = w1.heap.size + 1 := by simp
    rw [hsz] at hW
    obtain ⟨g, hgd⟩ : ∃ g, g = w1.heap.size + 1 := ⟨_, rfl⟩
    have HG3 := Lib.hid (grown_join (World.grownBy_alloc w1 (.cells #[.int .i64 1] 3) none) hg (.inr (by simp)))
    rw [hsz, ← hgd]
    rw [← hgd] at hW
    have HGD := Lib.hid hgd
    have HW3 := Lib.hid hW
    clear hW hg hgd hsz
    go_wp2_with fail
    go_loopw [4] (fun i wr => ∃ x : Nat, (x + 1 ≤ n ∨ x = 0) ∧ i = .int .i64 ((n : Int) - 2 - x) ∧ strE s x ≤ 1048576 ∧ Whole7 wr g (partE s n x) ∧ w1.grownBy wr none) (fun i _ => (intOf i + 1).toNat)
    case atStart => exact ⟨0, .inr rfl, congrArg (Value.int .i64) (by omega), by rw [strE]; omega, HW3.out, HG3.out⟩
    case round =>
      obtain ⟨x, hx, rfl, hle, hW, hg⟩ := hrel
      have HW := Lib.hid hW
      have HG := Lib.hid hg
      have hpos := str_pos s x
      clear hW
      by_cases hlt : x + 1 < n
      · obtain ⟨y, hy⟩ : ∃ y, y = n - 2 - x := ⟨_, rfl⟩
        have e1 : (n : Int) - 2 - (x : Int) = (y : Int) := by omega
        have hyn : y + 1 < n := by omega
        rw [e1]
        have c0 : wr.cell? ⟨g, y + 1, none⟩ = some (.int .i64 (strE s x)) := by
          have := HW.out.cell (i := y + 1) (by rw [part_length]; exact hyn)
          rw [part_get s n x (y + 1) hyn (by omega)] at this
          exact this
        have f0 := HW.out.free y
        obtain ⟨b, off, rfl, hb0, k0⟩ := (H.out.keep hg (Nat.le_refl _)).2.at_ hyn
        have hb0 : b ≠ g := by rw [HGD.out]; omega
        have HSX := Lib.hid (HST.out x)
        rw [show n - 1 - x = y + 1 by omega] at HSX
        have hz0 := HRA.out (y + 1) (by rw [HL.out]; exact hyn)
        have HPU := Lib.hid (HW.out.put y (strE s (x + 1)))
        rw [part_put s n x y (by omega)] at HPU
        generalize s.getD (y + 1) 0 = z at *
        generalize hP : strE s x = P at *
        generalize hQ : strE s (x + 1) = Q at *
        have HP := Lib.hid hP
        have HQ := Lib.hid hQ
        have HY := Lib.hid hy
        have HSM := Lib.hid (str_mono s (i := x + 1) (n - 1) (by omega))
        clear hP hQ hy
        have d0 : decide ((0 : Int) ≤ (y : Int)) = true := by simp
        obtain ⟨k, hk⟩ : ∃ k, k = max 1 z := ⟨_, rfl⟩
        have hk1 : 1 ≤ k ∧ k ≤ 1048576 := by omega
        rw [← hk] at HSX
        have HKZ := Lib.hid hk
        clear hk
        have s1 : IntKind.i64.wrap ((y : Int) + 1) = (y : Int) + 1 := IntWalk.i64_in _ (by omega)
        have s2 : wrap64 ((y : Int) + 1) = (y : Int) + 1 := IntWalk.wrap64_in _ (by omega)
        have s3 : (0 : Int) ≤ (y : Int) + 1 := by omega
        have s4 : (y : Int) + 1 < (n : Int) := by omega
        have s5 : ((y : Int) + 1).toNat = y + 1 := by omega
        have hmx : (if z < 1 then 1 else z) = k := by
          have := HKZ.out
          by_cases h : z < 1
          · rw [if_pos h]; omega
          · rw [if_neg h]; omega
        have HI2 := Lib.hid (show ∀ z ∈ [k, P], I64 z from fun u hu => by
          simp only [List.mem_cons, List.not_mem_nil, or_false] at hu
          unfold I64
          rcases hu with rfl | rfl <;> omega)
        have HZB := Lib.hid (show szB 1048576 [k, P] = true from decide_eq_true ⟨by omega, fun u hu => by
          simp only [List.mem_cons, List.not_mem_nil, or_false] at hu
          rcases hu with rfl | rfl <;> omega⟩)
        have HPB := Lib.hid (show prB 1048576 [k, P] = decide (Q ≤ 1048576) by unfold prB; rw [HZB.out, prod_two, HSX.out, Int.mul_comm]; rfl)
        have HPY := Lib.hid (show Q ≤ 1048576 → pr 1048576 [k, P] = Q ∧ prB 1048576 [k, P] = true from fun hq => by
          have hb : prB 1048576 [k, P] = true := by rw [HPB.out]; exact decide_eq_true hq
          exact ⟨by unfold pr; rw [if_pos hb, prod_two, HSX.out, Int.mul_comm], hb⟩)
        have HPN := Lib.hid (show ¬ Q ≤ 1048576 → pr 1048576 [k, P] = 0 ∧ prB 1048576 [k, P] = false from fun hq => by
          have hb : prB 1048576 [k, P] = false := by rw [HPB.out]; exact decide_eq_false hq
          exact ⟨by unfold pr; rw [hb]; rfl, hb⟩)
        by_cases hgo : Q ≤ 1048576
        · have HPC := Lib.hid (fun (A : Option Addr) (w' : World) (hi : Ints w' A 2 [k, P]) => (product_any 1048576 A 2 2 [k, P] w' hi (by omega) (by omega) HI2.out).mono (fun e w'' (h : e = .returned (.tuple #[.int .i64 (pr 1048576 [k, P]), .bool (prB 1048576 [k, P])]) ∧ w'' = w') => show e = .returned (.tuple #[.int .i64 Q, .bool true]) ∧ w'' = w' from ⟨by rw [h.1, (HPY.out hgo).1, (HPY.out hgo).2], h.2⟩))
          have HGO := Lib.hid hgo
          clear hgo
          go_wp2_with fail
          go_region_held3 (fun w' => w'.cell? ⟨b, off + (y + 1), none⟩ = some (.int .i64 z) ∧ w'.cell? ⟨g, y + 1, none⟩ = some (.int .i64 P)) (first | go_keep | exact KEEP.out) (first
            | (go_at_call 68; refine (HPC.out _ _ (two_ints wr k P).drew).mono ?_; rintro e w5 ⟨rfl, rfl⟩))
          have HGA := Lib.hid (grown_drew (grown_alloc HG.out (.cells #[.int .i64 k, .int .i64 P] 3)))
          have HWA : Hid (Whole7 (wr.alloc (.cells #[.int .i64 k, .int .i64 P] 3)).drew g (partE s n x)) := Lib.hid (HW.out.grown (grown_drew (World.grownBy_alloc wr _ none)) (by simp))
          obtain ⟨W5, hW5⟩ : ∃ W5, W5 = (wr.alloc (.cells #[.int .i64 k, .int .i64 P] 3)).drew := ⟨_, rfl⟩
          rw [← hW5] at HGA HWA ⊢
          have HPU5 := Lib.hid (HWA.out.put y Q)
          rw [← HQ.out, part_put s n x y (by have := HY.out; omega), HQ.out] at HPU5
          have HGP := Lib.hid (grown_put (j := y) HGA.out (.inr (show w1.heap.size ≤ g by rw [HGD.out]; omega)) (.int .i64 Q))
          have c5 := HWA.out.cell (i := y) (by rw [part_length]; omega)
          have f5 := HWA.out.free y
          generalize (partE s n x).getD y 0 = old at *
          clear hW5 c0 k0 f0 hg
          go_wp2_with fail
          go_roundw
          case rel => exact ⟨x + 1, .inl (by have := HY.out; omega), congrArg (Value.int .i64) (by have := HY.out; omega), by rw [HQ.out]; exact HGO.out, HPU5.out, HGP.out⟩
          case measure => simp [intOf]
        · have HPC := Lib.hid (fun (A : Option Addr) (w' : World) (hi : Ints w' A 2 [k, P]) => (product_any 1048576 A 2 2 [k, P] w' hi (by omega) (by omega) HI2.out).mono (fun e w'' (h : e = .returned (.tuple #[.int .i64 (pr 1048576 [k, P]), .bool (prB 1048576 [k, P])]) ∧ w'' = w') => show e = .returned (.tuple #[.int .i64 0, .bool false]) ∧ w'' = w' from ⟨by rw [h.1, (HPN.out hgo).1, (HPN.out hgo).2], h.2⟩))
          have HBF := Lib.hid (HSB.out false (by rw [decide_eq_false_iff_not]; have := HSM.out; rw [HQ.out] at this; omega))
          have HE := Lib.hid (HNO.out HBF.out)
          clear hgo
          go_wp2_with fail
          go_region_held3 (fun w' => w'.cell? ⟨b, off + (y + 1), none⟩ = some (.int .i64 z) ∧ w'.cell? ⟨g, y + 1, none⟩ = some (.int .i64 P)) (first | go_keep | exact KEEP.out) (first
            | (go_at_call 68; refine (HPC.out _ _ (two_ints wr k P).drew).mono ?_; rintro e w5 ⟨rfl, rfl⟩))
          go_wp2_with fail
          go_ret
          exact GaveInts.of HE.out.symm (by rw [HE.out]; rfl) (OwnI.nil _ _) (grown_drew (grown_alloc HG.out _))
      · have HX := Lib.hid (show n ≤ x + 1 by omega)
        have d0 : decide ((0 : Int) ≤ (n : Int) - 2 - (x : Int)) = false := by simp; omega
        have HSY := Lib.hid (HSB.out true (decide_eq_true (Int.le_trans (str_mono s (i := n - 1) x (by omega)) hle)))
        have HPE := Lib.hid (part_end s n x HL.out HX.out HSY.out)
        clear hg hpos
        go_wp2_with fail
        go_ret
        exact GaveInts.of HPE.out (by rw [← HPE.out, part_length]) ((HW.out.own (base := w1.heap.size) (by rw [HGD.out]; omega) (by rw [part_length]; omega)).of_len (part_length _ _ _)) HG.out
end Go.Proofs.Ytkpfhjjojchdlaa
