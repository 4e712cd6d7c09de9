/-
  slices.Repeat of one number; math/bits.Mul of one; a block of numbers that is known whole, and copy into it (XRepeat's text, for a seat without order).
-/
import Derived.Test.YtkpfhjjojchdlaaIntsApp
import Derived.Laws.Bits64b
import Derived.Laws.CopyOwn
import Derived.Deep.RegionLaw
import Derived.Deep.RegionHeld3
import Derived.WalkSpells
import Derived.BigQuiet
import Derived.Deep.QuietTactic
namespace Go.Proofs.Ytkpfhjjojchdlaa
open Go.ChangeShapes Go.WideShapes Go.ChangeAt Go.RowKit
set_option linter.unusedVariables false
set_option maxRecDepth 100000

theorem ints_eqW {l l' : List Int} (hl : l.length = l'.length) (h : ∀ i, i < l.length → l.getD i 0 = l'.getD i 0) : l = l' := by
  apply List.ext_getElem hl
  intro i h1 h2
  have := h i h1
  simpa [List.getD, h1, h2] using this
def tabI7 (n : Nat) (f : Nat → Int) : List Int := (List.range n).map f
theorem tabI_length7 (n : Nat) (f : Nat → Int) : (tabI7 n f).length = n := by simp [tabI7]
theorem tabI_get7 (n : Nat) (f : Nat → Int) (i : Nat) (h : i < n) : (tabI7 n f).getD i 0 = f i := by simp [tabI7, List.getD, h]
theorem tabI_congr7 {n : Nat} {f g : Nat → Int} (h : ∀ i, i < n → f i = g i) : tabI7 n f = tabI7 n g :=
  ints_eqW (by rw [tabI_length7, tabI_length7]) fun i hi => by rw [tabI_length7] at hi; rw [tabI_get7 _ _ _ hi, tabI_get7 _ _ _ hi, h i hi]
theorem tabI_set7 (n : Nat) (f : Nat → Int) (i : Nat) (z : Int) : (tabI7 n f).set i z = tabI7 n fun j => if j = i then z else f j := by
  refine ints_eqW (by rw [List.length_set, tabI_length7, tabI_length7]) fun j hj => ?_
  rw [List.length_set, tabI_length7] at hj
  rw [tabI_get7 _ _ _ hj]
  by_cases e : j = i
  · subst e
    rw [if_pos rfl]
    simp [List.getD, tabI_length7, hj]
  · rw [if_neg e]
    have h1 := tabI_get7 n f j hj
    simp only [List.getD] at h1 ⊢
    rw [List.getElem?_set_ne (Ne.symm e), h1]
theorem make_ints7 (m : Nat) (hm : m ≤ 1048576) : ∃ Z : Array Value, Z.toList = intV (tabI7 m fun _ => 0) ∧ ∀ W : World, (Instr.makeSlice 22 (.int .i64 (m : Int)) (.int .i64 (m : Int))).run Try.prog W = .ok (.slice (some ⟨W.heap.size, 0, none⟩) m m) (W.alloc (.cells Z 3)) := by
  obtain ⟨i0, hi, hz0, hz1, hz2⟩ := info_parts info_int
  refine ⟨madeCells (Value.int .i64 0).cells (m * i0.size), ?_, fun W => ?_⟩
  · rw [hz1]
    apply List.ext_getElem
    · simp [madeCells, intV, tabI7]
    · intro i h1 h2
      simp [madeCells, Nat.mod_one, intV, tabI7, Value.cells]
  · have h := run_make (P := Try.prog) W 22 3 i0 _ Try.underlying22 hi hz0 .i64 .i64 (m : Int) (m : Int) (by omega) (by omega) (by rw [hz2]; omega) (by omega)
    simpa using h
theorem and327 (n : Nat) (h : n ≤ 1048576) : bits .and .u64 (n : Int) 4294967295 = (n : Int) := by
  have h1 := bits_and_u64_nat n 4294967295 (by omega) (by omega)
  have e : n &&& 4294967295 = n % 4294967296 := Nat.and_two_pow_sub_one_eq_mod n 32
  rw [e, Nat.mod_eq_of_lt (by omega)] at h1
  exact h1
theorem wrap_u64_in7 (a : Int) (h : 0 ≤ a ∧ a ≤ 1048576) : IntKind.u64.wrap a = a := by rw [IntKind.wrap_u64]; omega
theorem mul64_one7 (n : Nat) (w : World) (hn : n ≤ 1048576) : Calls Try.prog 96 #[.int .u64 1, .int .u64 n] w fun e w' => e = .returned (.tuple #[.int .u64 0, .int .u64 n]) ∧ w' = w := by
  have ha := and327 n hn
  have hb : bits .and .u64 1 4294967295 = 1 := by kernel_rfl
  have hd : (n : Int) / 4294967296 = 0 := by omega
  have hw := wrap_u64_in7 n (by omega)
  go_enter Try.func96, Try.ntmps96
  go_wp2
  go_ret2
  exact ⟨rfl, rfl⟩
theorem mul_one47 (n : Nat) (w : World) (hn : n ≤ 1048576) : Calls Try.prog 87 #[.int .u64 1, .int .u64 n] w fun e w' => e = .returned (.tuple #[.int .u64 0, .int .u64 n]) ∧ w' = w := by
  go_enter Try.func87, Try.ntmps87
  go_wp2_with (go_at_call 96; refine (mul64_one7 n _ hn).mono ?_; rintro e w' ⟨rfl, rfl⟩)
  go_ret2
  exact ⟨rfl, rfl⟩

/-! ### a block of numbers that is known whole -/
def Whole7 (w : World) (g : Nat) (zs : List Int) : Prop := w.heap[g]? = some (.cells (intV zs).toArray 3 (0, 0))
section
variable {w w' : World} {g base : Nat} {zs : List Int}
theorem Whole7.small (h : Whole7 w g zs) : g < w.heap.size := (Array.getElem?_eq_some_iff.1 h).1
theorem Whole7.own (h : Whole7 w g zs) (hb : base ≤ g) (hn : zs.length ≤ 1048576) : OwnI w base (some ⟨g, 0, none⟩) zs.length zs.length zs := by
  refine ⟨rfl, by rw [intV_length]; omega, .inr ⟨g, zs.length, (intV zs).toArray, rfl, hb, h, Nat.le_refl _, by unfold maxLen; omega, by simp [intV_length], ?_⟩⟩
  rw [List.take_of_length_le (by simp [intV_length])]
theorem Whole7.cell (h : Whole7 w g zs) {i : Nat} (hi : i < zs.length) : w.cell? ⟨g, i, none⟩ = some (.int .i64 (zs.getD i 0)) := by
  rw [cell_of_row w g i _ _ _ h]
  simp only [List.getElem?_toArray]
  exact intV_get zs i hi
theorem Whole7.free (h : Whole7 w g zs) (i : Nat) : w.frozen? ⟨g, i, none⟩ = false := by
  have h' : w.heap[g]? = _ := h
  simp [World.frozen?, h']
theorem Whole7.put (h : Whole7 w g zs) (i : Nat) (z : Int) : Whole7 (w.setCell ⟨g, i, none⟩ (.int .i64 z)) g (zs.set i z) := by
  have h' : w.heap[g]? = _ := h
  unfold Whole7
  rw [← intV_set]
  simp [World.setCell, Array.getElem?_modify, h']
theorem Whole7.fresh (w : World) {Z : Array Value} (hZ : Z.toList = intV zs) : Whole7 (w.alloc (.cells Z 3)) w.heap.size zs := by
  unfold Whole7
  rw [← hZ]
  exact heap_alloc_new w _
theorem Whole7.grown {row : Option Nat} (h : Whole7 w g zs) (hg : w.grownBy w' row) (hne : some g ≠ row) : Whole7 w' g zs := (hg.block g h.small hne).trans h
theorem Whole7.below {B : Nat} (h : Whole7 w g zs) (hb : Below B w w') (hg : g < B) : Whole7 w' g zs := (hb.block g hg).trans h
theorem Whole7.drewN (h : Whole7 w g zs) (n : Nat) : Whole7 (w.drewN n) g zs := h
theorem Whole7.nums (h : Whole7 w g zs) {i n : Nat} (hi : i + n ≤ zs.length) : Nums w w.heap.size (some ⟨g, i, none⟩) n ((zs.drop i).take n) := by
  refine ⟨by rw [List.length_take, List.length_drop]; omega, fun _ => ⟨g, i, rfl, h.small, fun k hk => ?_⟩⟩
  rw [h.cell (by omega)]
  simp [List.getD, hk]
end
theorem whole_splice7 {w : World} {g off : Nat} {zs cs : List Int} (h : w.heap[g]? = some (.cells (splice (intV zs) off (intV cs)).toArray 3 (0, 0))) : Whole7 w g (splice zs off cs) := by
  have e : splice (intV zs) off (intV cs) = intV (splice zs off cs) := by unfold splice intV; simp
  rw [e] at h
  exact h
theorem splice_get7 {zs cs : List Int} {off i : Nat} (h : off + cs.length ≤ zs.length) : (splice zs off cs).getD i 0 = if off ≤ i ∧ i < off + cs.length then cs.getD (i - off) 0 else zs.getD i 0 := by
  unfold splice
  simp only [List.getD]
  rcases Nat.lt_or_ge i off with h1 | h1
  · rw [if_neg (by omega), List.getElem?_append_left (by rw [List.length_take]; omega), List.getElem?_take_of_lt h1]
  · rw [List.getElem?_append_right (by rw [List.length_take]; omega), List.length_take, Nat.min_eq_left (by omega)]
    rcases Nat.lt_or_ge i (off + cs.length) with h2 | h2
    · rw [if_pos ⟨h1, h2⟩, List.getElem?_append_left (by omega)]
    · rw [if_neg (by omega), List.getElem?_append_right (by omega), List.getElem?_drop, show off + cs.length + (i - off - cs.length) = i by omega]

/-! ### copy into a block that is known whole -/
theorem int_size7 : (Try.prog.info? 3).map (·.size) = some 1 := by kernel_rfl
theorem run_copy_whole7 {w : World} {g : Nat} {zs cs : List Int} (h : Whole7 w g zs) (off dLen dCap sLen sCap : Nat) (dp sp : Option Addr) (hn : cs.length = Nat.min sLen dLen)
    (hpos : 0 < cs.length → dp = some ⟨g, off, none⟩ ∧ ∃ ad : Addr, sp = some ad ∧ ∀ j, j < cs.length → w.cell? (ad.add j) = some (.int .i64 (cs.getD j 0))) (hfit : off + cs.length ≤ zs.length) (ty : TypeId) :
    ∃ w2, (Builtin.copy_ #[22, 22] ty #[.slice dp dLen dCap, .slice sp sLen sCap]).run Try.prog w = .ok (goInt cs.length) w2 ∧ Whole7 w2 g (splice zs off cs) ∧ w.grownBy w2 (some g) := by
  by_cases h0 : cs.length = 0
  · obtain rfl : cs = [] := List.eq_nil_of_length_eq_zero h0
    refine ⟨w, run_copy_none (P := Try.prog) w _ _ ty 3 dp sp dLen dCap sLen sCap Try.underlying22 int_size7 (by simpa using hn.symm), ?_, grown_refl _ _⟩
    have e : splice zs off [] = zs := by simp [splice]
    rw [e]; exact h
  · obtain ⟨rfl, ad, rfl, hsrc⟩ := hpos (by omega)
    have hg : w.heap[g]? = _ := h
    have hrun := run_copy_row (P := Try.prog) w 22 22 ty 3 g off dLen dCap ad sLen sCap (intV zs).toArray 3 (intV cs) Try.underlying22 int_size7 hg (by rw [intV_length]; exact hn) (fun j u hu => by
      have hj : j < cs.length := by rw [← intV_length]; exact (List.getElem?_eq_some_iff.1 hu).1
      rw [hsrc j hj, ← intV_get cs j hj, hu]) (by rw [intV_length]; simpa [intV_length] using hfit) (intV_one cs)
    rw [intV_length] at hrun
    refine ⟨_, hrun, whole_splice7 (by simpa [splice, intV_length] using setRow_heap w g _ _ 3 _ hg), rfl, rfl, rfl, by simp [World.setRow], fun k hk hne => setRow_other w g k _ (by intro e; subst e; exact hne rfl)⟩

/-! ### Repeat -/
/-- the lesser of two. -/
theorem least7 (a b : Nat) : ∃ m, m = Nat.min a b ∧ m ≤ a ∧ m ≤ b ∧ (m = a ∨ m = b) := by
  refine ⟨_, rfl, Nat.min_le_left a b, Nat.min_le_right a b, ?_⟩
  rcases Nat.le_total a b with h | h
  · exact .inl (Nat.min_eq_left h)
  · exact .inr (Nat.min_eq_right h)
/-- .. as one step of a region that draws its order. -/
theorem step_copy_whole7 {ops : Array Oper} {o : Oper} {a : Act} {w : World} {K : Act → World → Prop} {Q : Exit → Act → World → Prop} {E : Prop} {g : Nat} {zs : List Int} (hgd : o.guard = none) (d s : Operand)
    (ho : o.op = .call { callee := .builtin .copy, args := #[d, s], argTypes := #[22, 22] }) (h : Whole7 w g zs) (cs : List Int) (off dLen dCap sLen sCap : Nat) (dp sp : Option Addr) (hd : a.eval d = .slice dp dLen dCap) (hs : a.eval s = .slice sp sLen sCap)
    (hn : cs.length = Nat.min sLen dLen) (hpos : 0 < cs.length → dp = some ⟨g, off, none⟩ ∧ ∃ ad : Addr, sp = some ad ∧ ∀ j, j < cs.length → w.cell? (ad.add j) = some (.int .i64 (cs.getD j 0))) (hfit : off + cs.length ≤ zs.length)
    (hK : ∀ w2, Hid (Whole7 w2 g (splice zs off cs)) → Hid (w.grownBy w2 (some g)) → K (a.put o.dst (goInt cs.length)) w2) : if Region.wanted o (yielded ops a.tmps) = true then Oper.wp Try.prog o a w K Q else E := by
  have hw : Region.wanted o (yielded ops a.tmps) = true := by simp [Region.wanted, hgd]
  rw [if_pos hw]
  obtain ⟨w2, hrun, h1, h2⟩ := run_copy_whole7 h off dLen dCap sLen sCap dp sp hn hpos hfit o.type
  unfold Oper.wp
  simp [execOp, ho, resolve, invoke, builtin, hd, hs, hrun, Result.andThen]
  exact hK _ (Lib.hid h1) (Lib.hid h2)
theorem tab_start7 (v : Int) (k m : Nat) (h1 : m ≤ 1) (h2 : m ≤ k) : splice (tabI7 k fun _ => 0) 0 ([v].take m) = tabI7 k fun j => if j < m then v else 0 := by
  have hl : ([v].take m).length = m := by rw [List.length_take, List.length_singleton]; omega
  refine ints_eqW (by rw [length_splice _ _ _ (by rw [hl, tabI_length7]; omega), tabI_length7, tabI_length7]) fun i hi => ?_
  rw [length_splice _ _ _ (by rw [hl, tabI_length7]; omega), tabI_length7] at hi
  rw [splice_get7 (by rw [hl, tabI_length7]; omega), tabI_get7 _ _ _ hi, tabI_get7 _ _ _ hi, hl]
  by_cases e : i < m
  · rw [if_pos (by omega), if_pos e]
    obtain rfl : i = 0 := by omega
    obtain rfl : m = 1 := by omega
    rfl
  · rw [if_neg (by omega), if_neg e]
theorem tab_more7 (v : Int) (k x m : Nat) (h : x + m ≤ k) : splice (tabI7 k fun j => if j < x then v else 0) x (List.replicate m v) = tabI7 k fun j => if j < x + m then v else 0 := by
  have hl : (List.replicate m v).length = m := List.length_replicate
  refine ints_eqW (by rw [length_splice _ _ _ (by rw [hl, tabI_length7]; omega), tabI_length7, tabI_length7]) fun i hi => ?_
  rw [length_splice _ _ _ (by rw [hl, tabI_length7]; omega), tabI_length7] at hi
  rw [splice_get7 (by rw [hl, tabI_length7]; omega), tabI_get7 _ _ _ hi, tabI_get7 _ _ _ hi, hl]
  by_cases e : i < x
  · rw [if_neg (by omega), if_pos e, if_pos (by omega)]
  · by_cases e2 : i < x + m
    · rw [if_pos (by omega), if_pos e2]
      simp [List.getD, show i - x < m by omega]
    · rw [if_neg (by omega), if_neg e, if_neg e2]
set_option maxHeartbeats 1000000 in
theorem repeat4_one7 (b o : Nat) (v : Int) (k : Nat) (w : World) (hc : w.cell? ⟨b, o, none⟩ = some (.int .i64 v)) (hb : b < w.heap.size) (hk : k ≤ 1048576) :
    Calls Try.prog 67 #[.slice (some ⟨b, o, none⟩) 1 1, .int .i64 k] w fun e w' => e = .returned (.slice (some ⟨w.heap.size, 0, none⟩) k k) ∧ Whole7 w' w.heap.size (tabI7 k fun _ => v) ∧ w.grownBy w' none := by
  obtain ⟨Z, hZ, hmk⟩ := make_ints7 k hk
  have HW := Lib.hid (Whole7.fresh w hZ)
  obtain ⟨m, hm, hm1, hm2, hm3⟩ := least7 1 k
  have HM3 := Lib.hid hm3
  have HT := Lib.hid (tab_start7 v k m hm1 hm2)
  have hl : ([v].take m).length = m := by rw [List.length_take, List.length_singleton]; omega
  obtain ⟨w2, hcp, hw2, hg2⟩ := run_copy_whole7 (cs := [v].take m) HW.out 0 k k 1 1 (some ⟨w.heap.size, 0, none⟩) (some ⟨b, o, none⟩) (by rw [hl, hm]) (fun h0 => ⟨rfl, _, rfl, fun j hj => by
    rw [hl] at h0 hj
    obtain rfl : m = 1 := by omega
    obtain rfl : j = 0 := by omega
    rw [Addr.add_lit, World.cell?_of_block (Below.heap_alloc w _ b hb)]
    exact hc⟩) (by rw [hl, tabI_length7]; omega) 3
  rw [hl] at hcp
  rw [HT.out] at hw2
  have HW2 := Lib.hid hw2
  have HG2 := Lib.hid (grown_join (World.grownBy_alloc w (.cells Z 3) none) hg2 (.inr fun x hx => by injection hx with hx; omega))
  have hw := wrap_u64_in7 k (by omega)
  clear hZ hc hm hm3 hl hw2 hg2
  go_enter Try.func67, Try.ntmps67
  go_wp2_with (go_at_call 87; refine (mul_one47 k _ hk).mono ?_; rintro e w' ⟨rfl, rfl⟩)
  go_loopw [8] (fun n wr => ∃ x : Nat, x ≤ k ∧ n = .int .i64 x ∧ Whole7 wr w'.heap.size (tabI7 k fun j => if j < x then v else 0) ∧ (x = 0 → k = 0) ∧ w'.grownBy wr none) (fun n _ => k - (intOf n).toNat)
  case atStart => exact ⟨m, hm2, rfl, HW2.out, by have := HM3.out; omega, HG2.out⟩
  case round =>
    obtain ⟨x, hx, rfl, hW, h0, hg⟩ := hrel
    have HWR := Lib.hid hW
    have HGR := Lib.hid hg
    clear hW hg
    by_cases hlt : x < k
    · obtain ⟨q, hq, hq1, hq2, hq3⟩ := least7 x (k - x)
      have HQ := Lib.hid hq
      have HTM := Lib.hid (tab_more7 v k x q (by omega))
      have hl : (List.replicate q v).length = q := List.length_replicate
      have HL := Lib.hid hl
      have b1 : (0 : Int) ≤ (x : Int) := by omega
      have b2 : (x : Int) ≤ (k : Int) := by omega
      have hne : (x : Int) ≠ (k : Int) := by omega
      have hsub : ((k : Int) - (x : Int)).toNat = k - x := by omega
      have hsum : IntKind.i64.wrap ((x : Int) + (q : Int)) = (x : Int) + (q : Int) := IntWalk.i64_in _ (by omega)
      obtain ⟨w3, hcp3, hw3, hg3⟩ := run_copy_whole7 (w := wr.drew) (cs := List.replicate q v) (show Whole7 _ _ _ from HWR.out) x (k - x) (k - x) x k (some ⟨w'.heap.size, x, none⟩) (some ⟨w'.heap.size, 0, none⟩) (by rw [hl, hq]) (fun _ => ⟨rfl, _, rfl, fun j hj => by
        rw [hl] at hj
        rw [Addr.add_lit, Nat.zero_add]
        have h1 := HWR.out.cell (i := j) (by rw [tabI_length7]; omega)
        rw [tabI_get7 _ _ _ (by omega), if_pos (by omega)] at h1
        simp [List.getD, hj]
        exact h1⟩) (by rw [hl, tabI_length7]; omega) 3
      rw [hl] at hcp3
      have HW3 := Lib.hid hw3
      have HG3 := Lib.hid (grown_join (grown_drew HGR.out) hg3 (.inr fun y hy => by injection hy with hy; omega))
      have hx0 : 0 < x := by omega
      clear hq hl h0 hw3 hg3
      go_wp2
      go_region_held3 (fun w' => True) (trivial) (fail)
      go_wp2
      go_roundw
      case rel => exact ⟨x + q, by omega, by go_num, by rw [← HTM.out]; exact HW3.out, fun h => by omega, HG3.out⟩
      case measure => simp [intOf]; omega
    · obtain rfl : x = k := by omega
      go_wp2
      go_ret
      refine ⟨rfl, ?_, HGR.out⟩
      have h1 := HWR.out
      rw [tabI_congr7 (g := fun _ => v) fun i hi => if_pos hi] at h1
      exact h1
end Go.Proofs.Ytkpfhjjojchdlaa
