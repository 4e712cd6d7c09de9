/-
  ROWS OF CELLS THAT THE CALL MADE; buf.Cells; the law package's Cells, Refs, put; the reference's Norm, Norms, Same, New, Copy.
-/
import Derived.Test.YtabkgdichlebmaaBufCopy
import Derived.Maps.AppendAt
namespace Go.Proofs.Ytabkgdichlebmaa
open Go.ChangeShapes Go.WideShapes Go.ChangeAt Go.RowKit
set_option linter.unusedVariables false

def celV (l : List Cel) : List Value := l.flatMap fun c => [.int .i64 c.v, .bool c.ok]
theorem celV_length (l : List Cel) : (celV l).length = l.length * 2 := by
  unfold celV
  induction l with
  | nil => rfl
  | cons c l ih => rw [List.flatMap_cons, List.length_append, ih]; simp; omega
theorem celV_get : ∀ (l : List Cel) (k : Nat), k < l.length → (celV l)[k * 2]? = some (.int .i64 (l.getD k noCel).v) ∧ (celV l)[k * 2 + 1]? = some (.bool (l.getD k noCel).ok)
  | [], k, h => absurd h (by simp)
  | c :: l, 0, h => ⟨rfl, rfl⟩
  | c :: l, k + 1, h => by
    have ih := celV_get l k (by simpa using h)
    have e1 : (k + 1) * 2 = k * 2 + 1 + 1 := by omega
    rw [e1]
    exact ih
theorem celV_snoc (l : List Cel) (c : Cel) : celV (l ++ [c]) = celV l ++ [.int .i64 c.v, .bool c.ok] := by simp [celV]
theorem celV_one (l : List Cel) : ∀ u ∈ celV l, u.oneCell' = true := by
  intro u hu
  unfold celV at hu
  rw [List.mem_flatMap] at hu
  obtain ⟨c, _, hc⟩ := hu
  simp at hc
  rcases hc with rfl | rfl <;> rfl
/-- the row of cells at A is the call's own, from block base on. -/
def OwnC (w : World) (base : Nat) (e : TypeId) (A : Option Addr) (n c : Nat) (l : List Cel) : Prop := l.length = n ∧ w.ownsRow base e 2 (.slice A n c) n (celV l)
section
variable {w w' : World} {base n c : Nat} {e : TypeId} {A : Option Addr} {l : List Cel}
theorem OwnC.cels (h : OwnC w base e A n c l) : Cels w w.heap.size A n l := by
  refine ⟨h.1, fun h0 => ?_⟩
  obtain ⟨r, rfl, _, hl, _, _⟩ := own_form h.2 h0
  refine ⟨r, 0, rfl, hl, fun k hk => ?_⟩
  have hg := celV_get l k (by rw [h.1]; exact hk)
  rw [Nat.zero_add, h.2.cellAt (k * 2) (by omega), h.2.cellAt (k * 2 + 1) (by omega)]
  exact hg
theorem OwnC.grow (h : OwnC w base e A n c l) (hg : w.grownBy w' none) : OwnC w' base e A n c l := ⟨h.1, own_grow h.2 hg⟩
theorem OwnC.turned {lo hi : Nat} (h : OwnC w base e A n c l) (ht : Turn lo hi w w') (hb : hi ≤ base) : OwnC w' base e A n c l :=
  ⟨h.1, ht.own h.2 fun k hk => .inr (Nat.le_trans hb (h.2.lt k hk).1)⟩
theorem OwnC.drewN (h : OwnC w base e A n c l) (m : Nat) : OwnC (w.drewN m) base e A n c l := h
theorem OwnC.at_ (h : OwnC w base e A n c l) {i : Nat} (hi : i < n) : ∃ r, A = some ⟨r, 0, none⟩ ∧ base ≤ r ∧ w.cell? ⟨r, i * 2, none⟩ = some (.int .i64 (l.getD i noCel).v) ∧ w.cell? ⟨r, i * 2 + 1, none⟩ = some (.bool (l.getD i noCel).ok) ∧ w.frozen? ⟨r, i * 2, none⟩ = false ∧ w.frozen? ⟨r, i * 2 + 1, none⟩ = false := by
  obtain ⟨r, rfl, hb, _, _, _⟩ := own_form h.2 (by omega)
  have hg := celV_get l i (by rw [h.1]; exact hi)
  refine ⟨r, rfl, hb, ?_, ?_, h.2.frozenAt _, h.2.frozenAt _⟩
  · rw [h.2.cellAt (i * 2) (by omega)]; exact hg.1
  · rw [h.2.cellAt (i * 2 + 1) (by omega)]; exact hg.2
theorem celV_set (l : List Cel) (i : Nat) (x : Cel) (hi : i < l.length) : ((celV l).set (i * 2) (.int .i64 x.v)).set (i * 2 + 1) (.bool x.ok) = celV (l.set i x) := by
  induction l generalizing i with
  | nil => simp at hi
  | cons c l ih =>
    cases i with
    | zero => rfl
    | succ i =>
      have e1 : (i + 1) * 2 = i * 2 + 1 + 1 := by omega
      rw [e1]
      have := ih i (by simpa using hi)
      show (Value.int .i64 c.v :: Value.bool c.ok :: ((celV l).set (i * 2) (.int .i64 x.v)).set (i * 2 + 1) (.bool x.ok)) = _
      rw [this]
      rfl
theorem OwnC.put {r : Nat} (h : OwnC w base e (some ⟨r, 0, none⟩) n c l) {i : Nat} (hi : i < n) (x : Cel) :
    OwnC ((w.setCell ⟨r, i * 2, none⟩ (.int .i64 x.v)).setCell ⟨r, i * 2 + 1, none⟩ (.bool x.ok)) base e (some ⟨r, 0, none⟩) n c (l.set i x) := by
  have h1 := (h.2.stored (i * 2) (.int .i64 x.v)).1
  have h2 := (h1.stored (i * 2 + 1) (.bool x.ok)).1
  refine ⟨by rw [List.length_set]; exact h.1, ?_⟩
  rw [celV_set l i x (by rw [h.1]; exact hi)] at h2
  exact h2
theorem OwnC.put_grown {w0 : World} {r i : Nat} {u v : Value} (h : OwnC w base e (some ⟨r, 0, none⟩) n c l) (hn : 0 < n) (hg : w0.grownBy w none) (hb : w0.heap.size ≤ base) : w0.grownBy ((w.setCell ⟨r, i, none⟩ u).setCell ⟨r, i + 1, none⟩ v) none := by
  obtain ⟨r', e, hr, _⟩ := own_form h.2 hn
  injection e with e; injection e with e
  subst e
  exact grown_put (grown_put hg (.inr (by omega)) _) (.inr (by omega)) _
end

/-! ### buf.Cells -/
theorem info_cel : (Try.prog.info? 34).map (fun i => (i.zero, i.size, i.bytes)) = some (some (.agg #[.int .i64 0, .bool false]), 2, 16) := by kernel_rfl
theorem blank_cels (n : Nat) : (madeCells (Value.agg #[.int .i64 0, .bool false]).cells (n * 2)).toList = celV (blanks n) := by
  apply List.ext_getElem?
  intro i
  by_cases hi : i < n * 2
  · have hb := blanks_get n (i / 2)
    have hl : i / 2 < (blanks n).length := by rw [blanks_length]; omega
    obtain ⟨h0, h1⟩ := celV_get (blanks n) (i / 2) hl
    rw [hb] at h0 h1
    rcases Nat.mod_two_eq_zero_or_one i with hm | hm
    · have e : i / 2 * 2 = i := by omega
      rw [e] at h0
      rw [h0]
      simp [madeCells, hi, Value.cells, hm, noCel]
    · have e : i / 2 * 2 + 1 = i := by omega
      rw [e] at h1
      rw [h1]
      simp [madeCells, hi, Value.cells, hm, noCel]
  · rw [List.getElem?_eq_none (by simp [madeCells]; omega), List.getElem?_eq_none (by rw [celV_length, blanks_length]; omega)]
theorem make_cels (m : Nat) (hm : m ≤ 1048576) : ∃ Z : Array Value, Z.toList = celV (blanks m) ∧ ∀ W : World, (Instr.makeSlice 27 (.int .i64 (m : Int)) (.int .i64 (m : Int))).run Try.prog W = .ok (.slice (some ⟨W.heap.size, 0, none⟩) m m) (W.alloc (.cells Z 34)) := by
  obtain ⟨i0, hi, hz0, hz1, hz2⟩ := info_parts info_cel
  refine ⟨madeCells (Value.agg #[.int .i64 0, .bool false]).cells (m * i0.size), by rw [hz1]; exact blank_cels m, fun W => ?_⟩
  have h := run_make (P := Try.prog) W 27 34 i0 _ Try.underlying27 hi hz0 .i64 .i64 (m : Int) (m : Int) (by omega) (by omega) (by rw [hz2]; omega) (by omega)
  simpa using h
theorem made_own {w : World} {e : TypeId} {m : Nat} {Z : Array Value} (hm : m ≤ 1048576) (hZ : Z.toList = celV (blanks m)) : OwnC (w.alloc (.cells Z e)) w.heap.size e (some ⟨w.heap.size, 0, none⟩) m m (blanks m) := by
  refine ⟨blanks_length m, ?_⟩
  rw [← hZ]
  exact World.ownsRow_lit w Z _ (Nat.le_refl _) (by unfold maxLen; omega) (by rw [← Array.length_toList, hZ, celV_length, blanks_length])
theorem headC_set (l : List Cel) (x : Nat) (h : x < l.length) : (headC l x).set x (l.getD x noCel) = headC l (x + 1) := by
  refine cels_eq (by rw [List.length_set, headC_length, headC_length]) fun i hi => ?_
  rw [List.length_set, headC_length] at hi
  unfold headC
  rw [ctab_get _ _ _ hi]
  by_cases h1 : i = x
  · subst h1
    rw [if_pos (by omega)]
    simp [List.getD, ctab_length, hi]
  · have e : ((ctab l.length fun i => if i < x then l.getD i noCel else noCel).set x (l.getD x noCel)).getD i noCel = (ctab l.length fun i => if i < x then l.getD i noCel else noCel).getD i noCel := by
      simp only [List.getD]
      rw [List.getElem?_set_ne (Ne.symm h1)]
    rw [e, ctab_get _ _ _ hi]
    by_cases h2 : i < x
    · rw [if_pos h2, if_pos (by omega)]
    · rw [if_neg h2, if_neg (by omega)]
/-- cells that were told. -/
def GaveCels (e : TypeId) (l : List Cel) (w : World) (en : Ending) (w' : World) : Prop := ∃ A c, en = .returned (.slice A l.length c) ∧ OwnC w' w.heap.size e A l.length c l ∧ w.grownBy w' none
set_option maxHeartbeats 1000000 in
theorem bufCells_any (p : Option Addr) (l : List Cel) (lo hi : Nat) (w : World) (h : BufP w lo hi p l) :
    Calls Try.prog 18 #[.pointer p] w (GaveCels 34 (norms l) w) := by
  have H := Lib.hid h
  have hs := h.small
  obtain ⟨Z, hZ, hmk⟩ := make_cels l.length hs
  have HZ := Lib.hid hZ
  clear h hZ
  go_enter Try.func18, Try.ntmps18
  go_wp2_with fail
  refine (buflen_any p l lo hi _ H.out).mono ?_
  rintro e w1 ⟨rfl, hg1⟩
  have HI : Hid (OwnC (w1.alloc (.cells Z 34)) w1.heap.size 34 (some ⟨w1.heap.size, 0, none⟩) l.length l.length (headC (norms l) 0) ∧ w.grownBy (w1.alloc (.cells Z 34)) none) := Lib.hid (by
    rw [headC_zero, norms_length]
    exact ⟨made_own hs HZ.out, grown_alloc hg1 _⟩)
  have HS1 := Lib.hid hg1.size
  clear hg1
  go_wp2_with fail
  go_loopw [10] (fun i wr => ∃ x : Nat, x ≤ l.length ∧ i = .int .i64 x ∧ OwnC wr w1.heap.size 34 (some ⟨w1.heap.size, 0, none⟩) l.length l.length (headC (norms l) x) ∧ w.grownBy wr none) (fun i _ => l.length - (intOf i).toNat)
  case atStart => exact ⟨0, by omega, rfl, HI.out.1, HI.out.2⟩
  case round =>
    obtain ⟨x, hx, rfl, ho, hg⟩ := hrel
    have HO := Lib.hid ho
    have HG := Lib.hid hg
    clear ho hg
    by_cases hlt : x < l.length
    · rcases H.out with ⟨_, rfl⟩ | ⟨g, mp, A, c, rfl, hb⟩
      · simp at hlt
      · have HGT := Lib.hid (bufGet_yes wr lo hi g mp A c l x (hb.grow HG.out) hlt)
        have HST := Lib.hid (headC_set (norms l) x (by rw [norms_length]; exact hlt))
        rw [norms_get] at HST
        clear hb
        generalize (l.getD x noCel).norm = y at *
        obtain ⟨yv, yo⟩ := y
        go_wp2_with fail
        refine HGT.out.mono ?_
        rintro e w2 ⟨rfl, hg2⟩
        have ho2 := HO.out.grow hg2
        obtain ⟨r, er, _, k1, k2, k3, k4⟩ := ho2.at_ hlt
        obtain rfl : w1.heap.size = r := by injection er with er; injection er
        have HO2 := Lib.hid ho2
        have HG2 := Lib.hid (grown_join HG.out hg2 (.inr (by simp)))
        clear hg2 ho2 er
        go_wp2_with fail
        go_roundw
        case rel => exact ⟨x + 1, by omega, by go_num, by rw [← HST.out]; exact HO2.out.put hlt ⟨yv, yo⟩, HO2.out.put_grown (by omega) HG2.out HS1.out⟩
        case measure => simp [intOf]; omega
    · obtain rfl : x = l.length := by omega
      go_wp2
      go_ret
      have h2 := HO.out
      have e := headC_all (norms l)
      rw [norms_length] at e
      rw [e] at h2
      unfold GaveCels
      rw [norms_length]
      exact ⟨_, _, rfl, ⟨h2.1, own_lower h2.2 HS1.out⟩, HG.out⟩
end Go.Proofs.Ytabkgdichlebmaa
