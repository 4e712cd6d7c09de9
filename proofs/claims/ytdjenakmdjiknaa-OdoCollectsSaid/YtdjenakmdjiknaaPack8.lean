/-
  Texts of this claim, one behind the other.
-/
import Derived.Laws.Bits64b
import Derived.Laws.CopyOwn
import Derived.Deep.RegionLaw
import Derived.Deep.RegionHeld3
import Derived.WalkSpells
import Derived.BigQuiet
import Derived.Deep.QuietTactic
import Derived.Test.YtdjenakmdjiknaaPack1
import Derived.Test.YtdjenakmdjiknaaPack2
import Derived.Test.YtdjenakmdjiknaaPack3
import Derived.Test.YtdjenakmdjiknaaPack4
import Derived.Test.YtdjenakmdjiknaaPack5
import Derived.Test.YtdjenakmdjiknaaPack6
import Derived.Test.YtdjenakmdjiknaaPack7

/-! slices.Repeat of one number; math/bits.Mul of one; a block of numbers that is known whole, and copy into it (XRepeat's text, for a seat without order). -/
section
namespace Go.Proofs.Ytdjenakmdjiknaa
open Go.ChangeShapes Go.WideShapes Go.ChangeAt Go.RowKit
set_option linter.unusedVariables false
set_option maxRecDepth 100000

theorem ints_eqW {l l' : List Int} (hl : l.length = l'.length) (h : ∀ i, i < l.length → l.getD i 0 = l'.getD i 0) : l = l' := by
  apply List.ext_getElem hl
  intro i h1 h2
  have := h i h1
  simpa [List.getD, h1, h2] using this
def tabI7 (n : Nat) (f : Nat → Int) : List Int := (List.range n).map f
theorem tabI_length7 (n : Nat) (f : Nat → Int) : (tabI7 n f).length = n := by simp [tabI7]
theorem tabI_get7 (n : Nat) (f : Nat → Int) (i : Nat) (h : i < n) : (tabI7 n f).getD i 0 = f i := by simp [tabI7, List.getD, h]
theorem tabI_congr7 {n : Nat} {f g : Nat → Int} (h : ∀ i, i < n → f i = g i) : tabI7 n f = tabI7 n g :=
  ints_eqW (by rw [tabI_length7, tabI_length7]) fun i hi => by rw [tabI_length7] at hi; rw [tabI_get7 _ _ _ hi, tabI_get7 _ _ _ hi, h i hi]
theorem tabI_set7 (n : Nat) (f : Nat → Int) (i : Nat) (z : Int) : (tabI7 n f).set i z = tabI7 n fun j => if j = i then z else f j := by
  refine ints_eqW (by rw [List.length_set, tabI_length7, tabI_length7]) fun j hj => ?_
  rw [List.length_set, tabI_length7] at hj
  rw [tabI_get7 _ _ _ hj]
  by_cases e : j = i
  · subst e
    rw [if_pos rfl]
    simp [List.getD, tabI_length7, hj]
  · rw [if_neg e]
    have h1 := tabI_get7 n f j hj
    simp only [List.getD] at h1 ⊢
    rw [List.getElem?_set_ne (Ne.symm e), h1]
theorem make_ints7 (m : Nat) (hm : m ≤ 1048576) : ∃ Z : Array Value, Z.toList = intV (tabI7 m fun _ => 0) ∧ ∀ W : World, (Instr.makeSlice 22 (.int .i64 (m : Int)) (.int .i64 (m : Int))).run Try.prog W = .ok (.slice (some ⟨W.heap.size, 0, none⟩) m m) (W.alloc (.cells Z 3)) := by
  obtain ⟨i0, hi, hz0, hz1, hz2⟩ := info_parts info_int
  refine ⟨madeCells (Value.int .i64 0).cells (m * i0.size), ?_, fun W => ?_⟩
  · rw [hz1]
    apply List.ext_getElem
    · simp [madeCells, intV, tabI7]
    · intro i h1 h2
      simp [madeCells, Nat.mod_one, intV, tabI7, Value.cells]
  · have h := run_make (P := Try.prog) W 22 3 i0 _ Try.underlying22 hi hz0 .i64 .i64 (m : Int) (m : Int) (by omega) (by omega) (by rw [hz2]; omega) (by omega)
    simpa using h
theorem and327 (n : Nat) (h : n ≤ 1048576) : bits .and .u64 (n : Int) 4294967295 = (n : Int) := by
  have h1 := bits_and_u64_nat n 4294967295 (by omega) (by omega)
  have e : n &&& 4294967295 = n % 4294967296 := Nat.and_two_pow_sub_one_eq_mod n 32
  rw [e, Nat.mod_eq_of_lt (by omega)] at h1
  exact h1
theorem wrap_u64_in7 (a : Int) (h : 0 ≤ a ∧ a ≤ 1048576) : IntKind.u64.wrap a = a := by rw [IntKind.wrap_u64]; omega
theorem mul64_one7 (n : Nat) (w : World) (hn : n ≤ 1048576) : Calls Try.prog 71 #[.int .u64 1, .int .u64 n] w fun e w' => e = .returned (.tuple #[.int .u64 0, .int .u64 n]) ∧ w' = w := by
  have ha := and327 n hn
  have hb : bits .and .u64 1 4294967295 = 1 := by kernel_rfl
  have hd : (n : Int) / 4294967296 = 0 := by omega
  have hw := wrap_u64_in7 n (by omega)
  go_enter Try.func71, Try.ntmps71
  go_wp2
  go_ret2
  exact ⟨rfl, rfl⟩
theorem mul_one47 (n : Nat) (w : World) (hn : n ≤ 1048576) : Calls Try.prog 66 #[.int .u64 1, .int .u64 n] w fun e w' => e = .returned (.tuple #[.int .u64 0, .int .u64 n]) ∧ w' = w := by
  go_enter Try.func66, Try.ntmps66
  go_wp2_with (go_at_call 71; refine (mul64_one7 n _ hn).mono ?_; rintro e w' ⟨rfl, rfl⟩)
  go_ret2
  exact ⟨rfl, rfl⟩

/-! ### a block of numbers that is known whole -/
def Whole7 (w : World) (g : Nat) (zs : List Int) : Prop := w.heap[g]? = some (.cells (intV zs).toArray 3 (0, 0))
section
variable {w w' : World} {g base : Nat} {zs : List Int}
theorem Whole7.small (h : Whole7 w g zs) : g < w.heap.size := (Array.getElem?_eq_some_iff.1 h).1
theorem Whole7.own (h : Whole7 w g zs) (hb : base ≤ g) (hn : zs.length ≤ 1048576) : OwnI w base (some ⟨g, 0, none⟩) zs.length zs.length zs := by
  refine ⟨rfl, by rw [intV_length]; omega, .inr ⟨g, zs.length, (intV zs).toArray, rfl, hb, h, Nat.le_refl _, by unfold maxLen; omega, by simp [intV_length], ?_⟩⟩
  rw [List.take_of_length_le (by simp [intV_length])]
theorem Whole7.cell (h : Whole7 w g zs) {i : Nat} (hi : i < zs.length) : w.cell? ⟨g, i, none⟩ = some (.int .i64 (zs.getD i 0)) := by
  rw [cell_of_row w g i _ _ _ h]
  simp only [List.getElem?_toArray]
  exact intV_get zs i hi
theorem Whole7.free (h : Whole7 w g zs) (i : Nat) : w.frozen? ⟨g, i, none⟩ = false := by
  have h' : w.heap[g]? = _ := h
  simp [World.frozen?, h']
theorem Whole7.put (h : Whole7 w g zs) (i : Nat) (z : Int) : Whole7 (w.setCell ⟨g, i, none⟩ (.int .i64 z)) g (zs.set i z) := by
  have h' : w.heap[g]? = _ := h
  unfold Whole7
  rw [← intV_set]
  simp [World.setCell, Array.getElem?_modify, h']
theorem Whole7.fresh (w : World) {Z : Array Value} (hZ : Z.toList = intV zs) : Whole7 (w.alloc (.cells Z 3)) w.heap.size zs := by
  unfold Whole7
  rw [← hZ]
  exact heap_alloc_new w _
theorem Whole7.grown {row : Option Nat} (h : Whole7 w g zs) (hg : w.grownBy w' row) (hne : some g ≠ row) : Whole7 w' g zs := (hg.block g h.small hne).trans h
theorem Whole7.below {B : Nat} (h : Whole7 w g zs) (hb : Below B w w') (hg : g < B) : Whole7 w' g zs := (hb.block g hg).trans h
theorem Whole7.drewN (h : Whole7 w g zs) (n : Nat) : Whole7 (w.drewN n) g zs := h
theorem Whole7.nums (h : Whole7 w g zs) {i n : Nat} (hi : i + n ≤ zs.length) : Nums w w.heap.size (some ⟨g, i, none⟩) n ((zs.drop i).take n) := by
  refine ⟨by rw [List.length_take, List.length_drop]; omega, fun _ => ⟨g, i, rfl, h.small, fun k hk => ?_⟩⟩
  rw [h.cell (by omega)]
  simp [List.getD, hk]
end
theorem whole_splice7 {w : World} {g off : Nat} {zs cs : List Int} (h : w.heap[g]? = some (.cells (splice (intV zs) off (intV cs)).toArray 3 (0, 0))) : Whole7 w g (splice zs off cs) := by
  have e : splice (intV zs) off (intV cs) = intV (splice zs off cs) := by unfold splice intV; simp
  rw [e] at h
  exact h
theorem splice_get7 {zs cs : List Int} {off i : Nat} (h : off + cs.length ≤ zs.length) : (splice zs off cs).getD i 0 = if off ≤ i ∧ i < off + cs.length then cs.getD (i - off) 0 else zs.getD i 0 := by
  unfold splice
  simp only [List.getD]
  rcases Nat.lt_or_ge i off with h1 | h1
  · rw [if_neg (by omega), List.getElem?_append_left (by rw [List.length_take]; omega), List.getElem?_take_of_lt h1]
  · rw [List.getElem?_append_right (by rw [List.length_take]; omega), List.length_take, Nat.min_eq_left (by omega)]
    rcases Nat.lt_or_ge i (off + cs.length) with h2 | h2
    · rw [if_pos ⟨h1, h2⟩, List.getElem?_append_left (by omega)]
    · rw [if_neg (by omega), List.getElem?_append_right (by omega), List.getElem?_drop, show off + cs.length + (i - off - cs.length) = i by omega]

/-! ### copy into a block that is known whole -/
theorem int_size7 : (Try.prog.info? 3).map (·.size) = some 1 := by kernel_rfl
theorem run_copy_whole7 {w : World} {g : Nat} {zs cs : List Int} (h : Whole7 w g zs) (off dLen dCap sLen sCap : Nat) (dp sp : Option Addr) (hn : cs.length = Nat.min sLen dLen)
    (hpos : 0 < cs.length → dp = some ⟨g, off, none⟩ ∧ ∃ ad : Addr, sp = some ad ∧ ∀ j, j < cs.length → w.cell? (ad.add j) = some (.int .i64 (cs.getD j 0))) (hfit : off + cs.length ≤ zs.length) (ty : TypeId) :
    ∃ w2, (Builtin.copy_ #[22, 22] ty #[.slice dp dLen dCap, .slice sp sLen sCap]).run Try.prog w = .ok (goInt cs.length) w2 ∧ Whole7 w2 g (splice zs off cs) ∧ w.grownBy w2 (some g) := by
  by_cases h0 : cs.length = 0
  · obtain rfl : cs = [] := List.eq_nil_of_length_eq_zero h0
    refine ⟨w, run_copy_none (P := Try.prog) w _ _ ty 3 dp sp dLen dCap sLen sCap Try.underlying22 int_size7 (by simpa using hn.symm), ?_, grown_refl _ _⟩
    have e : splice zs off [] = zs := by simp [splice]
    rw [e]; exact h
  · obtain ⟨rfl, ad, rfl, hsrc⟩ := hpos (by omega)
    have hg : w.heap[g]? = _ := h
    have hrun := run_copy_row (P := Try.prog) w 22 22 ty 3 g off dLen dCap ad sLen sCap (intV zs).toArray 3 (intV cs) Try.underlying22 int_size7 hg (by rw [intV_length]; exact hn) (fun j u hu => by
      have hj : j < cs.length := by rw [← intV_length]; exact (List.getElem?_eq_some_iff.1 hu).1
      rw [hsrc j hj, ← intV_get cs j hj, hu]) (by rw [intV_length]; simpa [intV_length] using hfit) (intV_one cs)
    rw [intV_length] at hrun
    refine ⟨_, hrun, whole_splice7 (by simpa [splice, intV_length] using setRow_heap w g _ _ 3 _ hg), rfl, rfl, rfl, by simp [World.setRow], fun k hk hne => setRow_other w g k _ (by intro e; subst e; exact hne rfl)⟩

/-! ### Repeat -/
/-- the lesser of two. -/
theorem least7 (a b : Nat) : ∃ m, m = Nat.min a b ∧ m ≤ a ∧ m ≤ b ∧ (m = a ∨ m = b) := by
  refine ⟨_, rfl, Nat.min_le_left a b, Nat.min_le_right a b, ?_⟩
  rcases Nat.le_total a b with h | h
  · exact .inl (Nat.min_eq_left h)
  · exact .inr (Nat.min_eq_right h)
/-- .. as one step of a region that draws its order. -/
theorem step_copy_whole7 {ops : Array Oper} {o : Oper} {a : Act} {w : World} {K : Act → World → Prop} {Q : Exit → Act → World → Prop} {E : Prop} {g : Nat} {zs : List Int} (hgd : o.guard = none) (d s : Operand)
    (ho : o.op = .call { callee := .builtin .copy, args := #[d, s], argTypes := #[22, 22] }) (h : Whole7 w g zs) (cs : List Int) (off dLen dCap sLen sCap : Nat) (dp sp : Option Addr) (hd : a.eval d = .slice dp dLen dCap) (hs : a.eval s = .slice sp sLen sCap)
    (hn : cs.length = Nat.min sLen dLen) (hpos : 0 < cs.length → dp = some ⟨g, off, none⟩ ∧ ∃ ad : Addr, sp = some ad ∧ ∀ j, j < cs.length → w.cell? (ad.add j) = some (.int .i64 (cs.getD j 0))) (hfit : off + cs.length ≤ zs.length)
    (hK : ∀ w2, Hid (Whole7 w2 g (splice zs off cs)) → Hid (w.grownBy w2 (some g)) → K (a.put o.dst (goInt cs.length)) w2) : if Region.wanted o (yielded ops a.tmps) = true then Oper.wp Try.prog o a w K Q else E := by
  have hw : Region.wanted o (yielded ops a.tmps) = true := by simp [Region.wanted, hgd]
  rw [if_pos hw]
  obtain ⟨w2, hrun, h1, h2⟩ := run_copy_whole7 h off dLen dCap sLen sCap dp sp hn hpos hfit o.type
  unfold Oper.wp
  simp [execOp, ho, resolve, invoke, builtin, hd, hs, hrun, Result.andThen]
  exact hK _ (Lib.hid h1) (Lib.hid h2)
theorem tab_start7 (v : Int) (k m : Nat) (h1 : m ≤ 1) (h2 : m ≤ k) : splice (tabI7 k fun _ => 0) 0 ([v].take m) = tabI7 k fun j => if j < m then v else 0 := by
  have hl : ([v].take m).length = m := by rw [List.length_take, List.length_singleton]; omega
  refine ints_eqW (by rw [length_splice _ _ _ (by rw [hl, tabI_length7]; omega), tabI_length7, tabI_length7]) fun i hi => ?_
  rw [length_splice _ _ _ (by rw [hl, tabI_length7]; omega), tabI_length7] at hi
  rw [splice_get7 (by rw [hl, tabI_length7]; omega), tabI_get7 _ _ _ hi, tabI_get7 _ _ _ hi, hl]
  by_cases e : i < m
  · rw [if_pos (by omega), if_pos e]
    obtain rfl : i = 0 := by omega
    obtain rfl : m = 1 := by omega
    rfl
  · rw [if_neg (by omega), if_neg e]
theorem tab_more7 (v : Int) (k x m : Nat) (h : x + m ≤ k) : splice (tabI7 k fun j => if j < x then v else 0) x (List.replicate m v) = tabI7 k fun j => if j < x + m then v else 0 := by
  have hl : (List.replicate m v).length = m := List.length_replicate
  refine ints_eqW (by rw [length_splice _ _ _ (by rw [hl, tabI_length7]; omega), tabI_length7, tabI_length7]) fun i hi => ?_
  rw [length_splice _ _ _ (by rw [hl, tabI_length7]; omega), tabI_length7] at hi
  rw [splice_get7 (by rw [hl, tabI_length7]; omega), tabI_get7 _ _ _ hi, tabI_get7 _ _ _ hi, hl]
  by_cases e : i < x
  · rw [if_neg (by omega), if_pos e, if_pos (by omega)]
  · by_cases e2 : i < x + m
    · rw [if_pos (by omega), if_pos e2]
      simp [List.getD, show i - x < m by omega]
    · rw [if_neg (by omega), if_neg e, if_neg e2]
set_option maxHeartbeats 1000000 in
theorem repeat4_one7 (b o : Nat) (v : Int) (k : Nat) (w : World) (hc : w.cell? ⟨b, o, none⟩ = some (.int .i64 v)) (hb : b < w.heap.size) (hk : k ≤ 1048576) :
    Calls Try.prog 57 #[.slice (some ⟨b, o, none⟩) 1 1, .int .i64 k] w fun e w' => e = .returned (.slice (some ⟨w.heap.size, 0, none⟩) k k) ∧ Whole7 w' w.heap.size (tabI7 k fun _ => v) ∧ w.grownBy w' none := by
  obtain ⟨Z, hZ, hmk⟩ := make_ints7 k hk
  have HW := Lib.hid (Whole7.fresh w hZ)
  obtain ⟨m, hm, hm1, hm2, hm3⟩ := least7 1 k
  have HM3 := Lib.hid hm3
  have HT := Lib.hid (tab_start7 v k m hm1 hm2)
  have hl : ([v].take m).length = m := by rw [List.length_take, List.length_singleton]; omega
  obtain ⟨w2, hcp, hw2, hg2⟩ := run_copy_whole7 (cs := [v].take m) HW.out 0 k k 1 1 (some ⟨w.heap.size, 0, none⟩) (some ⟨b, o, none⟩) (by rw [hl, hm]) (fun h0 => ⟨rfl, _, rfl, fun j hj => by
    rw [hl] at h0 hj
    obtain rfl : m = 1 := by omega
    obtain rfl : j = 0 := by omega
    rw [Addr.add_lit, World.cell?_of_block (Below.heap_alloc w _ b hb)]
    exact hc⟩) (by rw [hl, tabI_length7]; omega) 3
  rw [hl] at hcp
  rw [HT.out] at hw2
  have HW2 := Lib.hid hw2
  have HG2 := Lib.hid (grown_join (World.grownBy_alloc w (.cells Z 3) none) hg2 (.inr fun x hx => by injection hx with hx; omega))
  have hw := wrap_u64_in7 k (by omega)
  clear hZ hc hm hm3 hl hw2 hg2
  go_enter Try.func57, Try.ntmps57
  go_wp2_with (go_at_call 66; refine (mul_one47 k _ hk).mono ?_; rintro e w' ⟨rfl, rfl⟩)
  go_loopw [8] (fun n wr => ∃ x : Nat, x ≤ k ∧ n = .int .i64 x ∧ Whole7 wr w'.heap.size (tabI7 k fun j => if j < x then v else 0) ∧ (x = 0 → k = 0) ∧ w'.grownBy wr none) (fun n _ => k - (intOf n).toNat)
  case atStart => exact ⟨m, hm2, rfl, HW2.out, by have := HM3.out; omega, HG2.out⟩
  case round =>
    obtain ⟨x, hx, rfl, hW, h0, hg⟩ := hrel
    have HWR := Lib.hid hW
    have HGR := Lib.hid hg
    clear hW hg
    by_cases hlt : x < k
    · obtain ⟨q, hq, hq1, hq2, hq3⟩ := least7 x (k - x)
      have HQ := Lib.hid hq
      have HTM := Lib.hid (tab_more7 v k x q (by omega))
      have hl : (List.replicate q v).length = q := List.length_replicate
      have HL := Lib.hid hl
      have b1 : (0 : Int) ≤ (x : Int) := by omega
      have b2 : (x : Int) ≤ (k : Int) := by omega
      have hne : (x : Int) ≠ (k : Int) := by omega
      have hsub : ((k : Int) - (x : Int)).toNat = k - x := by omega
      have hsum : IntKind.i64.wrap ((x : Int) + (q : Int)) = (x : Int) + (q : Int) := IntWalk.i64_in _ (by omega)
      obtain ⟨w3, hcp3, hw3, hg3⟩ := run_copy_whole7 (w := wr.drew) (cs := List.replicate q v) (show Whole7 _ _ _ from HWR.out) x (k - x) (k - x) x k (some ⟨w'.heap.size, x, none⟩) (some ⟨w'.heap.size, 0, none⟩) (by rw [hl, hq]) (fun _ => ⟨rfl, _, rfl, fun j hj => by
        rw [hl] at hj
        rw [Addr.add_lit, Nat.zero_add]
        have h1 := HWR.out.cell (i := j) (by rw [tabI_length7]; omega)
        rw [tabI_get7 _ _ _ (by omega), if_pos (by omega)] at h1
        simp [List.getD, hj]
        exact h1⟩) (by rw [hl, tabI_length7]; omega) 3
      rw [hl] at hcp3
      have HW3 := Lib.hid hw3
      have HG3 := Lib.hid (grown_join (grown_drew HGR.out) hg3 (.inr fun y hy => by injection hy with hy; omega))
      have hx0 : 0 < x := by omega
      clear hq hl h0 hw3 hg3
      go_wp2
      go_region_held3 (fun w' => True) (trivial) (fail)
      go_wp2
      go_roundw
      case rel => exact ⟨x + q, by omega, by go_num, by rw [← HTM.out]; exact HW3.out, fun h => by omega, HG3.out⟩
      case measure => simp [intOf]; omega
    · obtain rfl : x = k := by omega
      go_wp2
      go_ret
      refine ⟨rfl, ?_, HGR.out⟩
      have h1 := HWR.out
      rw [tabI_congr7 (g := fun _ => v) fun i hi => if_pos hi] at h1
      exact h1
end Go.Proofs.Ytdjenakmdjiknaa
end

/-! Layer 7, the program's own: Strides. -/
section
namespace Go.Proofs.Ytdjenakmdjiknaa
open Go.ChangeShapes Go.WideShapes Go.ChangeAt Go.RowKit
set_option linter.unusedVariables false
set_option maxRecDepth 100000

/-- the strides, as far as they are known: of the last x + 1 axes. -/
def partE (s : List Int) (n x : Nat) : List Int := tabI7 n fun j => if n - 1 - j ≤ x then strE s (n - 1 - j) else 1
theorem part_start (s : List Int) (n : Nat) : tabI7 n (fun _ => 1) = partE s n 0 := tabI_congr7 fun i hi => by
  by_cases h : n - 1 - i ≤ 0
  · rw [if_pos h, show n - 1 - i = 0 by omega]; rfl
  · rw [if_neg h]
theorem part_length (s : List Int) (n x : Nat) : (partE s n x).length = n := tabI_length7 _ _
theorem part_get (s : List Int) (n x y : Nat) (hy : y < n) (hx : n - 1 - y = x) : (partE s n x).getD y 0 = strE s x := by
  unfold partE
  rw [tabI_get7 _ _ _ hy, if_pos (by omega), hx]
theorem part_put (s : List Int) (n x y : Nat) (hy : n - 1 - y = x + 1) : (partE s n x).set y (strE s (x + 1)) = partE s n (x + 1) := by
  unfold partE
  rw [tabI_set7]
  refine tabI_congr7 fun i hi => ?_
  by_cases e : i = y
  · rw [if_pos e, if_pos (by omega), show n - 1 - i = x + 1 by omega]
  · rw [if_neg e]
    by_cases h : n - 1 - i ≤ x
    · rw [if_pos h, if_pos (by omega)]
    · rw [if_neg h, if_neg (by omega)]
theorem part_end (s : List Int) (n x : Nat) (hn : s.length = n) (hx : n ≤ x + 1) (hb : strB s = true) : partE s n x = stridesL s := by
  unfold stridesL partE
  rw [if_pos hb, hn]
  unfold tabI7
  apply List.map_congr_left
  intro i hi
  rw [List.mem_range] at hi
  rw [if_pos (by omega)]
theorem prod_two (a b : Int) : prodL [a, b] = a * b := by simp [prodL]
theorem two_ints (w : World) (x y : Int) : Ints (w.alloc (.cells #[.int .i64 x, .int .i64 y] 3)) (some ⟨w.heap.size, 0, none⟩) 2 [x, y] := (lit_numsF w [x, y] (by simp)).1.ints
theorem GaveInts.of {zs zs' : List Int} {w w' : World} {A : Option Addr} {n c : Nat} (hz : zs' = zs) (hn : zs.length = n) (ho : OwnI w' w.heap.size A n c zs') (hg : w.grownBy w' none) : GaveInts zs w (.returned (.slice A n c)) w' := by
  subst hz; subst hn; exact ⟨A, c, rfl, ho, hg⟩
theorem OwnI.of_len {w : World} {base : Nat} {A : Option Addr} {zs : List Int} {n : Nat} (h : OwnI w base A zs.length zs.length zs) (hn : zs.length = n) : OwnI w base A n n zs := by subst hn; exact h
set_option maxHeartbeats 2000000 in
theorem own7_strides (A : Option Addr) (n c : Nat) (s : List Int) (w : World) (h : Nums w w.heap.size A n s) (hn : n ≤ 1048576) :
    Calls Try.prog 41 #[.slice A n c] w (GaveInts (stridesL s) w) := by
  have HR := Lib.hid (own7_right A n c _ s w h hn)
  have H := Lib.hid h
  have HL := Lib.hid h.1
  clear h
  have HNO := Lib.hid (show strB s = false → stridesL s = [] from fun hb => by unfold stridesL; rw [hb]; rfl)
  cases hr : rightS s with
  | false =>
    rw [hr] at HR
    have HBF := Lib.hid (show strB s = false by unfold strB; rw [hr]; rfl)
    have HE := Lib.hid (HNO.out HBF.out)
    clear hr
    go_enter Try.func41, Try.ntmps41
    go_wp2_with fail
    refine HR.out.mono ?_
    rintro e w1 ⟨rfl, rfl⟩
    go_wp2_with fail
    go_ret
    exact GaveInts.of HE.out.symm (by rw [HE.out]; rfl) (OwnI.nil _ _) (grown_refl _ _)
  | true =>
    rw [hr] at HR
    have hn6 : n ≤ 6 := by rw [← HL.out]; exact (right_all hr).2
    have HST := Lib.hid (show ∀ j, strE s (j + 1) = strE s j * max 1 (s.getD (n - 1 - j) 0) from fun j => by rw [strE, HL.out])
    have HSB := Lib.hid (show ∀ b, decide (strE s (n - 1) ≤ 1048576) = b → strB s = b from fun b hb => by unfold strB; rw [hr, HL.out, hb]; rfl)
    have HRA := Lib.hid (fun i hi => right_at hr (i := i) hi)
    clear hr
    go_enter Try.func41, Try.ntmps41
    go_wp2_with fail
    refine HR.out.mono ?_
    rintro e w1 ⟨rfl, rfl⟩
    go_wp2_with fail
    refine (repeat4_one7 _ 0 1 n _ (one7 w1 1) (by simp) hn).mono ?_
    rintro e w3 ⟨rfl, hW, hg⟩
    rw [part_start s n] at hW
    have hsz : (w1.alloc (.cells #[.int .i64 1] 3)).heap.size = w1.heap.size + 1 := by simp
    rw [hsz] at hW
    obtain ⟨g, hgd⟩ : ∃ g, g = w1.heap.size + 1 := ⟨_, rfl⟩
    have HG3 := Lib.hid (grown_join (World.grownBy_alloc w1 (.cells #[.int .i64 1] 3) none) hg (.inr (by simp)))
    rw [hsz, ← hgd]
    rw [← hgd] at hW
    have HGD := Lib.hid hgd
    have HW3 := Lib.hid hW
    clear hW hg hgd hsz
    go_wp2_with fail
    go_loopw [4] (fun i wr => ∃ x : Nat, (x + 1 ≤ n ∨ x = 0) ∧ i = .int .i64 ((n : Int) - 2 - x) ∧ strE s x ≤ 1048576 ∧ Whole7 wr g (partE s n x) ∧ w1.grownBy wr none) (fun i _ => (intOf i + 1).toNat)
    case atStart => exact ⟨0, .inr rfl, congrArg (Value.int .i64) (by omega), by rw [strE]; omega, HW3.out, HG3.out⟩
    case round =>
      obtain ⟨x, hx, rfl, hle, hW, hg⟩ := hrel
      have HW := Lib.hid hW
      have HG := Lib.hid hg
      have hpos := str_pos s x
      clear hW
      by_cases hlt : x + 1 < n
      · obtain ⟨y, hy⟩ : ∃ y, y = n - 2 - x := ⟨_, rfl⟩
        have e1 : (n : Int) - 2 - (x : Int) = (y : Int) := by omega
        have hyn : y + 1 < n := by omega
        rw [e1]
        have c0 : wr.cell? ⟨g, y + 1, none⟩ = some (.int .i64 (strE s x)) := by
          have := HW.out.cell (i := y + 1) (by rw [part_length]; exact hyn)
          rw [part_get s n x (y + 1) hyn (by omega)] at this
          exact this
        have f0 := HW.out.free y
        obtain ⟨b, off, rfl, hb0, k0⟩ := (H.out.keep hg (Nat.le_refl _)).2.at_ hyn
        have hb0 : b ≠ g := by rw [HGD.out]; omega
        have HSX := Lib.hid (HST.out x)
        rw [show n - 1 - x = y + 1 by omega] at HSX
        have hz0 := HRA.out (y + 1) (by rw [HL.out]; exact hyn)
        have HPU := Lib.hid (HW.out.put y (strE s (x + 1)))
        rw [part_put s n x y (by omega)] at HPU
        generalize s.getD (y + 1) 0 = z at *
        generalize hP : strE s x = P at *
        generalize hQ : strE s (x + 1) = Q at *
        have HP := Lib.hid hP
        have HQ := Lib.hid hQ
        have HY := Lib.hid hy
        have HSM := Lib.hid (str_mono s (i := x + 1) (n - 1) (by omega))
        clear hP hQ hy
        have d0 : decide ((0 : Int) ≤ (y : Int)) = true := by simp
        obtain ⟨k, hk⟩ : ∃ k, k = max 1 z := ⟨_, rfl⟩
        have hk1 : 1 ≤ k ∧ k ≤ 1048576 := by omega
        rw [← hk] at HSX
        have HKZ := Lib.hid hk
        clear hk
        have s1 : IntKind.i64.wrap ((y : Int) + 1) = (y : Int) + 1 := IntWalk.i64_in _ (by omega)
        have s2 : wrap64 ((y : Int) + 1) = (y : Int) + 1 := IntWalk.wrap64_in _ (by omega)
        have s3 : (0 : Int) ≤ (y : Int) + 1 := by omega
        have s4 : (y : Int) + 1 < (n : Int) := by omega
        have s5 : ((y : Int) + 1).toNat = y + 1 := by omega
        have hmx : (if z < 1 then 1 else z) = k := by
          have := HKZ.out
          by_cases h : z < 1
          · rw [if_pos h]; omega
          · rw [if_neg h]; omega
        have HI2 := Lib.hid (show ∀ z ∈ [k, P], I64 z from fun u hu => by
          simp only [List.mem_cons, List.not_mem_nil, or_false] at hu
          unfold I64
          rcases hu with rfl | rfl <;> omega)
        have HZB := Lib.hid (show szB 1048576 [k, P] = true from decide_eq_true ⟨by omega, fun u hu => by
          simp only [List.mem_cons, List.not_mem_nil, or_false] at hu
          rcases hu with rfl | rfl <;> omega⟩)
        have HPB := Lib.hid (show prB 1048576 [k, P] = decide (Q ≤ 1048576) by unfold prB; rw [HZB.out, prod_two, HSX.out, Int.mul_comm]; rfl)
        have HPY := Lib.hid (show Q ≤ 1048576 → pr 1048576 [k, P] = Q ∧ prB 1048576 [k, P] = true from fun hq => by
          have hb : prB 1048576 [k, P] = true := by rw [HPB.out]; exact decide_eq_true hq
          exact ⟨by unfold pr; rw [if_pos hb, prod_two, HSX.out, Int.mul_comm], hb⟩)
        have HPN := Lib.hid (show ¬ Q ≤ 1048576 → pr 1048576 [k, P] = 0 ∧ prB 1048576 [k, P] = false from fun hq => by
          have hb : prB 1048576 [k, P] = false := by rw [HPB.out]; exact decide_eq_false hq
          exact ⟨by unfold pr; rw [hb]; rfl, hb⟩)
        by_cases hgo : Q ≤ 1048576
        · have HPC := Lib.hid (fun (A : Option Addr) (w' : World) (hi : Ints w' A 2 [k, P]) => (product_any 1048576 A 2 2 [k, P] w' hi (by omega) (by omega) HI2.out).mono (fun e w'' (h : e = .returned (.tuple #[.int .i64 (pr 1048576 [k, P]), .bool (prB 1048576 [k, P])]) ∧ w'' = w') => show e = .returned (.tuple #[.int .i64 Q, .bool true]) ∧ w'' = w' from ⟨by rw [h.1, (HPY.out hgo).1, (HPY.out hgo).2], h.2⟩))
          have HGO := Lib.hid hgo
          clear hgo
          go_wp2_with fail
          go_region_held3 (fun w' => w'.cell? ⟨b, off + (y + 1), none⟩ = some (.int .i64 z) ∧ w'.cell? ⟨g, y + 1, none⟩ = some (.int .i64 P)) (first | go_keep | exact KEEP.out) (first
            | (go_at_call 52; refine (HPC.out _ _ (two_ints wr k P).drew).mono ?_; rintro e w5 ⟨rfl, rfl⟩))
          have HGA := Lib.hid (grown_drew (grown_alloc HG.out (.cells #[.int .i64 k, .int .i64 P] 3)))
          have HWA : Hid (Whole7 (wr.alloc (.cells #[.int .i64 k, .int .i64 P] 3)).drew g (partE s n x)) := Lib.hid (HW.out.grown (grown_drew (World.grownBy_alloc wr _ none)) (by simp))
          obtain ⟨W5, hW5⟩ : ∃ W5, W5 = (wr.alloc (.cells #[.int .i64 k, .int .i64 P] 3)).drew := ⟨_, rfl⟩
          rw [← hW5] at HGA HWA ⊢
          have HPU5 := Lib.hid (HWA.out.put y Q)
          rw [← HQ.out, part_put s n x y (by have := HY.out; omega), HQ.out] at HPU5
          have HGP := Lib.hid (grown_put (j := y) HGA.out (.inr (show w1.heap.size ≤ g by rw [HGD.out]; omega)) (.int .i64 Q))
          have c5 := HWA.out.cell (i := y) (by rw [part_length]; omega)
          have f5 := HWA.out.free y
          generalize (partE s n x).getD y 0 = old at *
          clear hW5 c0 k0 f0 hg
          go_wp2_with fail
          go_roundw
          case rel => exact ⟨x + 1, .inl (by have := HY.out; omega), congrArg (Value.int .i64) (by have := HY.out; omega), by rw [HQ.out]; exact HGO.out, HPU5.out, HGP.out⟩
          case measure => simp [intOf]
        · have HPC := Lib.hid (fun (A : Option Addr) (w' : World) (hi : Ints w' A 2 [k, P]) => (product_any 1048576 A 2 2 [k, P] w' hi (by omega) (by omega) HI2.out).mono (fun e w'' (h : e = .returned (.tuple #[.int .i64 (pr 1048576 [k, P]), .bool (prB 1048576 [k, P])]) ∧ w'' = w') => show e = .returned (.tuple #[.int .i64 0, .bool false]) ∧ w'' = w' from ⟨by rw [h.1, (HPN.out hgo).1, (HPN.out hgo).2], h.2⟩))
          have HBF := Lib.hid (HSB.out false (by rw [decide_eq_false_iff_not]; have := HSM.out; rw [HQ.out] at this; omega))
          have HE := Lib.hid (HNO.out HBF.out)
          clear hgo
          go_wp2_with fail
          go_region_held3 (fun w' => w'.cell? ⟨b, off + (y + 1), none⟩ = some (.int .i64 z) ∧ w'.cell? ⟨g, y + 1, none⟩ = some (.int .i64 P)) (first | go_keep | exact KEEP.out) (first
            | (go_at_call 52; refine (HPC.out _ _ (two_ints wr k P).drew).mono ?_; rintro e w5 ⟨rfl, rfl⟩))
          go_wp2_with fail
          go_ret
          exact GaveInts.of HE.out.symm (by rw [HE.out]; rfl) (OwnI.nil _ _) (grown_drew (grown_alloc HG.out _))
      · have HX := Lib.hid (show n ≤ x + 1 by omega)
        have d0 : decide ((0 : Int) ≤ (n : Int) - 2 - (x : Int)) = false := by simp; omega
        have HSY := Lib.hid (HSB.out true (decide_eq_true (Int.le_trans (str_mono s (i := n - 1) x (by omega)) hle)))
        have HPE := Lib.hid (part_end s n x HL.out HX.out HSY.out)
        clear hg hpos
        go_wp2_with fail
        go_ret
        exact GaveInts.of HPE.out (by rw [← HPE.out, part_length]) ((HW.out.own (base := w1.heap.size) (by rw [HGD.out]; omega) (by rw [part_length]; omega)).of_len (part_length _ _ _)) HG.out
end Go.Proofs.Ytdjenakmdjiknaa
end

/-! Layer 8: the reference's Bounds. -/
section
namespace Go.Proofs.Ytdjenakmdjiknaa
open Go.ChangeShapes Go.WideShapes Go.ChangeAt Go.RowKit
set_option linter.unusedVariables false
set_option maxRecDepth 100000

theorem lowV_no {v : Vw} (h : someB v = false) : lowV v = 0 ∧ highV v = 0 := ⟨if_neg (by rw [h]; exact Bool.false_ne_true), if_neg (by rw [h]; exact Bool.false_ne_true)⟩
theorem lowV_yes {v : Vw} (h : someB v = true) : lowV v = lowE v v.sh.length ∧ highV v = highE v v.sh.length := ⟨if_pos h, if_pos h⟩
theorem tellG_three {x y x' y' : Int} {a b : Bool} {w w' : World} (h1 : x = y) (h1' : x' = y') (h2 : a = b) (hg : w.grownBy w' none) : TellG (.tuple #[.int .i64 y, .int .i64 y', .bool b]) w (.returned (.tuple #[.int .i64 x, .int .i64 x', .bool a])) w' := by
  subst h1; subst h1'; subst h2; exact ⟨rfl, hg⟩
end Go.Proofs.Ytdjenakmdjiknaa
end

/-! Layer 7, the program's own: Place, At. -/
section
namespace Go.Proofs.Ytdjenakmdjiknaa
open Go.ChangeShapes Go.WideShapes Go.ChangeAt Go.RowKit
set_option linter.unusedVariables false
set_option maxRecDepth 100000

/-! ### strides of shapes whose lengths are all at least 1 -/
theorem str_whole {s : List Int} (h : ∀ z ∈ s, 1 ≤ z) : ∀ j, j ≤ s.length → strE s j * prodL (s.take (s.length - j)) = prodL s
  | 0, _ => by rw [strE, Nat.sub_zero, List.take_of_length_le (Nat.le_refl _), Int.one_mul]
  | j + 1, hj => by
    have ih := str_whole h j (by omega)
    have hz := getD_one h (k := s.length - 1 - j) (by omega)
    have e : s.length - j = s.length - 1 - j + 1 := by omega
    rw [e, prodL_take s (s.length - 1 - j) (by omega)] at ih
    rw [strE, show s.length - (j + 1) = s.length - 1 - j by omega, show max 1 (s.getD (s.length - 1 - j) 0) = s.getD (s.length - 1 - j) 0 by omega, ← ih, Int.mul_assoc, Int.mul_comm (s.getD _ _)]
theorem str_le {s : List Int} (h : ∀ z ∈ s, 1 ≤ z) (hp : prodL s ≤ 1048576) {j : Nat} (hj : j ≤ s.length) : strE s j ≤ 1048576 := by
  have h1 := str_whole h j hj
  have h2 := prodL_pos (zs := s.take (s.length - j)) fun z hz => h z (List.mem_of_mem_take hz)
  have h3 := str_pos s j
  have h4 := Int.mul_le_mul_of_nonneg_left h2 (show 0 ≤ strE s j by omega)
  rw [Int.mul_one, h1] at h4
  omega
theorem str_full {s : List Int} (hf : full s = true) (h : ∀ z ∈ s, 1 ≤ z) : strB s = true := by
  unfold strB
  rw [(full_all hf).1]
  exact decide_eq_true (str_le h (full_all hf).2 (by omega))
theorem str_tab {s : List Int} {n : Nat} (hn : s.length = n) (hb : strB s = true) : stridesL s = tabI7 n fun j => strE s (n - 1 - j) := by
  subst hn; unfold stridesL; rw [if_pos hb]; rfl
theorem str_step {s : List Int} (h : ∀ z ∈ s, 1 ≤ z) {k : Nat} (hk : k < s.length) : strE s (s.length - k) = strE s (s.length - 1 - k) * s.getD k 0 := by
  have hz := getD_one h hk
  rw [show s.length - k = s.length - 1 - k + 1 by omega, strE, show s.length - 1 - (s.length - 1 - k) = k by omega, show max 1 (s.getD k 0) = s.getD k 0 by omega]
/-! ### Place -/
def sumE (s t : List Int) (n k : Nat) : Int := hornE s t k * strE s (n - k)
theorem sum_step {s t : List Int} {n : Nat} (hn : s.length = n) (h : ∀ z ∈ s, 1 ≤ z) {k : Nat} (hk : k < n) : sumE s t n (k + 1) = sumE s t n k + t.getD k 0 * strE s (n - 1 - k) := by
  subst hn
  unfold sumE
  rw [hornE, str_step h hk, show s.length - (k + 1) = s.length - 1 - k by omega, Int.add_mul, Int.mul_assoc, Int.mul_comm (s.getD k 0)]
theorem sum_in {s t : List Int} {n : Nat} (hn : s.length = n) (h : ∀ z ∈ s, 1 ≤ z) (hp : prodL s ≤ 1048576) (hh : ∀ i, i < s.length → 0 ≤ t.getD i 0 ∧ t.getD i 0 < s.getD i 0) {k : Nat} (hk : k ≤ n) : 0 ≤ sumE s t n k ∧ sumE s t n k ≤ 1099511627776 := by
  subst hn
  have h1 := horn_in hh k hk
  have h2 := prodL_mono s k h
  have h3 := str_pos s (s.length - k)
  have h4 := str_le h hp (j := s.length - k) (by omega)
  unfold sumE
  refine ⟨Int.mul_nonneg h1.1 (by omega), ?_⟩
  have := Int.mul_le_mul (show hornE s t k ≤ 1048576 by omega) h4 (by omega) (by omega)
  omega
theorem sum_term {s t : List Int} {n : Nat} (hn : s.length = n) (h : ∀ z ∈ s, 1 ≤ z) (hp : prodL s ≤ 1048576) (hh : ∀ i, i < s.length → 0 ≤ t.getD i 0 ∧ t.getD i 0 < s.getD i 0) {k : Nat} (hk : k < n) : 0 ≤ t.getD k 0 * strE s (n - 1 - k) ∧ t.getD k 0 * strE s (n - 1 - k) ≤ 1099511627776 := by
  subst hn
  have h1 := hh k hk
  have h2 : s.getD k 0 ≤ prodL s := by
    have a := prodL_mono s (k + 1) h
    rw [prodL_take s k hk] at a
    have b := prodL_pos (zs := s.take k) fun z hz => h z (List.mem_of_mem_take hz)
    have c := Int.mul_le_mul_of_nonneg_right b (show 0 ≤ s.getD k 0 by omega)
    rw [Int.one_mul] at c
    omega
  have h3 := str_pos s (s.length - 1 - k)
  have h4 := str_le h hp (j := s.length - 1 - k) (by omega)
  refine ⟨Int.mul_nonneg h1.1 (by omega), ?_⟩
  have := Int.mul_le_mul (show t.getD k 0 ≤ 1048576 by omega) h4 (by omega) (by omega)
  omega
theorem sum_end (s t : List Int) (n : Nat) : sumE s t n n = hornE s t n := by unfold sumE; rw [Nat.sub_self, strE, Int.mul_one]
theorem has_ones {s t : List Int} (h : ∀ i, i < s.length → 0 ≤ t.getD i 0 ∧ t.getD i 0 < s.getD i 0) : ∀ z ∈ s, 1 ≤ z := fun z hz => by
  obtain ⟨i, hi, rfl⟩ := List.getElem_of_mem hz
  have := h i hi
  simp [List.getD, hi] at this
  omega
set_option maxHeartbeats 2000000 in
theorem own7_place (A A' : Option Addr) (n c n' c' : Nat) (s t : List Int) (w : World) (h : NumsF w A n c s) (h' : NumsF w A' n' c' t) (hn : n ≤ 1048576) (hn' : n' ≤ 1048576) :
    Calls Try.prog 22 #[.slice A n c, .slice A' n' c'] w (TellG (.tuple #[.int .i64 (placeV s t), .bool (placeB s t)]) w) := by
  have HSI := Lib.hid (own7_size A n c _ s 1048576 w h.1 hn (by unfold I64; omega))
  have HHA := Lib.hid (own7_has A A' n c _ n' c' _ s t w h.1 h'.1 hn hn')
  have HST := Lib.hid (own7_strides A n c s w h.1 hn)
  have H := Lib.hid h.1
  have H' := Lib.hid h'.1
  have HL := Lib.hid h.1.1
  clear h h'
  have HPB := Lib.hid (show ∀ b d, full s = b → hasB s t = d → placeB s t = (b && d) from fun b d hb hd => by unfold placeB; rw [hb, hd])
  have HPN := Lib.hid (fun (hb : placeB s t = false) => place_no hb)
  have HPY := Lib.hid (fun (hb : placeB s t = true) => place_yes hb)
  have HFU := Lib.hid (show sizeB s 1048576 = full s from rfl)
  cases hf : full s with
  | false =>
    rw [HFU.out, hf] at HSI
    have HNO := Lib.hid (show placeB s t = false by rw [HPB.out _ _ hf rfl]; rfl)
    have HNV := Lib.hid (HPN.out HNO.out)
    clear hf
    go_enter Try.func22, Try.ntmps22
    go_wp2_with fail
    refine HSI.out.mono ?_
    rintro e w1 ⟨rfl, rfl⟩
    go_wp2_with fail
    go_ret2
    exact tellG_two HNV.out.symm HNO.out.symm (grown_refl _ _)
  | true =>
    rw [HFU.out, hf] at HSI
    cases hh : hasB s t with
    | false =>
      rw [hh] at HHA
      have HNO := Lib.hid (show placeB s t = false by rw [HPB.out _ _ hf hh]; rfl)
      have HNV := Lib.hid (HPN.out HNO.out)
      clear hf hh
      go_enter Try.func22, Try.ntmps22
      go_wp2_with fail
      refine HSI.out.mono ?_
      rintro e w1 ⟨rfl, rfl⟩
      go_wp2_with fail
      refine HHA.out.mono ?_
      rintro e w2 ⟨rfl, rfl⟩
      go_wp2_with fail
      go_ret2
      exact tellG_two HNV.out.symm HNO.out.symm (grown_refl _ _)
    | true =>
      rw [hh] at HHA
      have HYE := Lib.hid (show placeB s t = true by rw [HPB.out _ _ hf hh]; rfl)
      have HYV := Lib.hid (HPY.out HYE.out)
      have HAS := Lib.hid (has_all hh)
      have HON := Lib.hid (has_ones HAS.out.2.2)
      have HFA := Lib.hid (full_all hf)
      have hnn : n' = n := by rw [← HL.out, ← HAS.out.2.1]; exact H'.out.1.symm
      subst hnn
      have HSL := Lib.hid (str_tab HL.out (str_full hf HON.out))
      have HSTEP := Lib.hid (fun k (hk : k < n') => sum_step (t := t) HL.out HON.out hk)
      have HIN := Lib.hid (fun k (hk : k ≤ n') => sum_in (t := t) HL.out HON.out HFA.out.2 HAS.out.2.2 hk)
      have HTE := Lib.hid (fun k (hk : k < n') => sum_term (t := t) HL.out HON.out HFA.out.2 HAS.out.2.2 hk)
      clear hf hh
      go_enter Try.func22, Try.ntmps22
      go_wp2_with fail
      refine HSI.out.mono ?_
      rintro e w1 ⟨rfl, rfl⟩
      go_wp2_with fail
      refine HHA.out.mono ?_
      rintro e w2 ⟨rfl, rfl⟩
      go_wp2_with fail
      refine HST.out.mono ?_
      rintro e w3 ⟨A3, c3, rfl, ho, hg⟩
      have hl3 : (stridesL s).length = n' := by rw [HSL.out, tabI_length7]
      rw [hl3] at ho ⊢
      rw [HSL.out] at ho
      have HO3 := Lib.hid ho
      have HG3 := Lib.hid hg
      have HT3 := Lib.hid (H'.out.grow hg)
      clear ho hg hl3
      go_wp2_with fail
      go_loop [8, 27] (fun v i => ∃ k : Nat, k ≤ n' ∧ i = .int .i64 k ∧ v = .int .i64 (sumE s t n' k)) (fun _ i => n' - (intOf i).toNat)
      case atStart => exact ⟨0, Nat.zero_le _, rfl, congrArg (Value.int .i64) (by unfold sumE; rw [hornE, Int.zero_mul])⟩
      case round =>
        obtain ⟨k, hk, rfl, rfl⟩ := hrel
        by_cases hlt : k < n'
        · obtain ⟨r, rfl, _, c0, _⟩ := HO3.out.at_ hlt
          rw [tabI_get7 _ _ _ hlt] at c0
          obtain ⟨b', off', rfl, _, hc'⟩ := HT3.out.2.at_ hlt
          have HSK := Lib.hid (HSTEP.out k hlt)
          have b1 := HIN.out k hk
          have b2 := HIN.out (k + 1) hlt
          have b3 := HTE.out k hlt
          rw [HSK.out] at b2
          generalize sumE s t n' k = x at *
          generalize t.getD k 0 = u at *
          generalize strE s (n' - 1 - k) = v at *
          have m1 : IntKind.i64.wrap (u * v) = u * v := IntWalk.i64_in _ (by omega)
          have m2 : wrap64 (u * v) = u * v := IntWalk.wrap64_in _ (by omega)
          have m3 : IntKind.i64.wrap (x + u * v) = x + u * v := IntWalk.i64_in _ (by omega)
          have m4 : wrap64 (x + u * v) = x + u * v := IntWalk.wrap64_in _ (by omega)
          go_wp2_with fail
          go_round
          case rel => exact ⟨k + 1, by omega, by go_num, congrArg (Value.int .i64) HSK.out.symm⟩
          case measure => simp [intOf]; omega
        · obtain rfl : k = n' := by omega
          have HEN := Lib.hid (sum_end s t k)
          go_wp2_with fail
          go_ret2
          exact tellG_two (by rw [HYV.out, HL.out, HEN.out]) HYE.out.symm HG3.out
/-! ### At -/
theorem mod_div (p a b : Int) (ha : 0 < a) (hb : 0 < b) : p % (a * b) / a = p / a % b := by
  have h1 : p / (a * b) = p / a / b := (Int.ediv_ediv_of_nonneg (show 0 ≤ a by omega)).symm
  have h2 := Int.mul_ediv_add_emod p (a * b)
  have h3 := Int.mul_ediv_add_emod (p / a) b
  have h4 := Int.mul_ediv_add_emod p a
  have h5 : p % (a * b) = p % a + a * (p / a % b) := by
    rw [h1, Int.mul_assoc] at h2
    have e : a * (b * (p / a / b) + p / a % b) = a * (p / a) := by rw [h3]
    rw [Int.mul_add] at e
    generalize a * (b * (p / a / b)) = X at *
    generalize a * (p / a % b) = Y at *
    generalize a * (p / a) = Z at *
    omega
  rw [h5, Int.add_mul_ediv_left _ _ (by omega), Int.ediv_eq_zero_of_lt (Int.emod_nonneg _ (by omega)) (Int.emod_lt_of_pos _ ha), Int.zero_add]
theorem rest_div {s : List Int} (h : ∀ z ∈ s, 1 ≤ z) (p : Int) : ∀ j, j ≤ s.length → restE s p j = p / strE s j
  | 0, _ => by rw [restE, strE, Int.ediv_one]
  | j + 1, hj => by
    have hz := getD_one h (k := s.length - 1 - j) (by omega)
    have hp := str_pos s j
    rw [restE, rest_div h p j (by omega), strE, show max 1 (s.getD (s.length - 1 - j) 0) = s.getD (s.length - 1 - j) 0 by omega, Int.ediv_ediv_of_nonneg (by omega)]
/-- what is left of the count ahead of axis k. -/
def leftE (s : List Int) (p : Int) (n k : Nat) : Int := p % strE s (n - k)
theorem left_start {s : List Int} {p : Int} {n : Nat} (hn : s.length = n) (h : ∀ z ∈ s, 1 ≤ z) (h0 : 0 ≤ p) (hp : p < prodL s) : leftE s p n 0 = p := by
  subst hn
  have := str_whole h s.length (Nat.le_refl _)
  rw [Nat.sub_self, List.take_zero, show prodL [] = 1 from rfl, Int.mul_one] at this
  unfold leftE
  rw [Nat.sub_zero, this]
  exact Int.emod_eq_of_lt h0 hp
theorem left_step {s : List Int} {p : Int} {n : Nat} (hn : s.length = n) (h : ∀ z ∈ s, 1 ≤ z) {k : Nat} (hk : k < n) : leftE s p n k % strE s (n - 1 - k) = leftE s p n (k + 1) := by
  subst hn
  unfold leftE
  rw [str_step h hk, show s.length - (k + 1) = s.length - 1 - k by omega]
  exact Int.emod_emod_of_dvd _ (Int.dvd_mul_right _ _)
theorem left_dig {s : List Int} {p : Int} {n : Nat} (hn : s.length = n) (h : ∀ z ∈ s, 1 ≤ z) {k : Nat} (hk : k < n) : leftE s p n k / strE s (n - 1 - k) = digE s p k := by
  subst hn
  have hz := getD_one h hk
  have hp := str_pos s (s.length - 1 - k)
  unfold leftE digE
  rw [str_step h hk, mod_div _ _ _ (by omega) (by omega), rest_div h p _ (by omega)]
theorem left_in {s : List Int} {p : Int} {n : Nat} (hn : s.length = n) (h : ∀ z ∈ s, 1 ≤ z) (hp : prodL s ≤ 1048576) {k : Nat} (hk : k ≤ n) : 0 ≤ leftE s p n k ∧ leftE s p n k < 1048576 := by
  subst hn
  have h1 := str_pos s (s.length - k)
  have h2 := str_le h hp (j := s.length - k) (by omega)
  unfold leftE
  have := Int.emod_lt_of_pos p (show 0 < strE s (s.length - k) by omega)
  exact ⟨Int.emod_nonneg _ (by omega), by omega⟩
/-- the row behind k rounds: places ahead of k, strides from k on. -/
def mixE (s : List Int) (p : Int) (n k : Nat) : List Int := tabI7 n fun j => if j < k then digE s p j else strE s (n - 1 - j)
theorem mix_start (s : List Int) (p : Int) (n : Nat) : (tabI7 n fun j => strE s (n - 1 - j)) = mixE s p n 0 := tabI_congr7 fun i _ => (if_neg (by omega)).symm
theorem mix_get (s : List Int) (p : Int) (n k : Nat) (hk : k < n) : (mixE s p n k).getD k 0 = strE s (n - 1 - k) := by unfold mixE; rw [tabI_get7 _ _ _ hk, if_neg (by omega)]
theorem mix_put (s : List Int) (p : Int) (n k : Nat) : (mixE s p n k).set k (digE s p k) = mixE s p n (k + 1) := by
  unfold mixE
  rw [tabI_set7]
  refine tabI_congr7 fun i hi => ?_
  by_cases e : i = k
  · rw [if_pos e, if_pos (by omega), e]
  · rw [if_neg e]
    by_cases h : i < k
    · rw [if_pos h, if_pos (by omega)]
    · rw [if_neg h, if_neg (by omega)]
theorem mix_end {s : List Int} {p : Int} {n : Nat} (hn : s.length = n) (h : atB s p = true) : mixE s p n n = atL s p := by
  subst hn
  unfold mixE atL
  rw [if_pos h]
  unfold tabI7
  apply List.map_congr_left
  intro i hi
  rw [List.mem_range] at hi
  exact if_pos hi
theorem GaveIntsB.of {zs zs' : List Int} {b b' : Bool} {w w' : World} {A : Option Addr} {n c : Nat} (hz : zs' = zs) (hb : b' = b) (hn : zs.length = n) (ho : OwnI w' w.heap.size A n c zs') (hg : w.grownBy w' none) : GaveIntsB zs b w (.returned (.tuple #[.slice A n c, .bool b'])) w' := by
  subst hz; subst hn; subst hb; exact ⟨A, c, rfl, ho, hg⟩
theorem GaveIntsB.none_ {zs : List Int} {b : Bool} {w w' : World} (hz : zs = []) (hb : b = false) (hg : w.grownBy w' none) : GaveIntsB zs b w (.returned (.tuple #[.slice none 0 0, .bool false])) w' := by
  subst hz; subst hb; exact ⟨none, 0, rfl, OwnI.nil _ _, hg⟩
end Go.Proofs.Ytdjenakmdjiknaa
end
