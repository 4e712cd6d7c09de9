/-
  buf.Put, Get, Missing: contracts.
-/
import Derived.Test.YtabkgdichlebmaaBufFill
namespace Go.Proofs.Ytabkgdichlebmaa
open Go.ChangeShapes Go.WideShapes Go.ChangeAt Go.RowKit
set_option linter.unusedVariables false

theorem hasN_one (m : Nat) (i : Int) : hasN m i 1 = decide (0 ≤ i ∧ i < m) := by
  unfold hasN
  congr 1
  simp
  omega
theorem bufPut_no (w : World) (lo hi : Nat) (p : Option Addr) (l : List Cel) (i : Int) (x : Cel) (hi' : I64 i) (h : BufP w lo hi p l) (hb : hasN l.length i 1 = false) :
    Calls Try.prog 9 #[.pointer p, .int .i64 i, .agg #[.int .i64 x.v, .bool x.ok]] w (Left w lo hi p l) := by
  have H := Lib.hid h
  have HN := Lib.hid hb
  have HI := Lib.hid hi'
  obtain ⟨v, ok⟩ := x
  clear h hb hi'
  go_enter Try.func9, Try.ntmps9
  go_wp2_with fail
  refine (bufhas_any p l i 1 HI.out ⟨by omega, by omega⟩ lo hi _ (H.out.grow (World.grownBy_alloc _ _ none))).mono ?_
  rw [HN.out]
  rintro e w1 ⟨rfl, hg⟩
  have HG := Lib.hid (grown_join (World.grownBy_alloc w (.cells #[.int .i64 v, .bool ok] 34) none) hg (.inr (by simp)))
  clear hg
  go_wp2_with fail
  go_ret
  exact ⟨rfl, H.out.grow HG.out, Turn.of_grown HG.out⟩
theorem bufPut_yes (w : World) (lo hi g : Nat) (mp A : Option Addr) (c : Nat) (l : List Cel) (i : Nat) (x : Cel) (h : BufG w lo hi g mp A c l) (hlt : i < l.length) :
    Calls Try.prog 9 #[.pointer (some ⟨g, 0, none⟩), .int .i64 i, .agg #[.int .i64 x.v, .bool x.ok]] w (Fills w lo hi g mp A c true (fillC l i (i + 1) x)) := by
  have H := Lib.hid h
  have hs := h.small
  have HN := Lib.hid (show hasN l.length (i : Int) 1 = true by rw [hasN_one]; simp; omega)
  obtain ⟨v, ok⟩ := x
  clear h
  go_enter Try.func9, Try.ntmps9
  go_wp2_with fail
  refine (bufhas_any _ l i 1 ⟨by omega, by omega⟩ ⟨by omega, by omega⟩ lo hi _ (H.out.grow (World.grownBy_alloc _ _ none)).p).mono ?_
  rw [HN.out]
  rintro e w1 ⟨rfl, hg⟩
  have hbx := (Box.fresh w 34 #[.int .i64 v, .bool ok]).grown hg (by simp)
  have c0 : w1.cell? ⟨w.heap.size, 0, none⟩ = some (.int .i64 v) := by rw [hbx.get]; rfl
  have c1 : w1.cell? ⟨w.heap.size, 1, none⟩ = some (.bool ok) := by rw [hbx.get]; rfl
  have HG := Lib.hid (grown_join (World.grownBy_alloc w (.cells #[.int .i64 v, .bool ok] 34) none) hg (.inr (by simp)))
  have HF := Lib.hid (bufFill_yes w1 lo hi g mp A c l i (i + 1) ⟨v, ok⟩ (H.out.grow HG.out) (by omega) (by omega))
  clear hg hbx
  go_wp2_with fail
  refine HF.out.mono ?_
  rintro e w2 ⟨rfl, hb, ht⟩
  have HB := Lib.hid hb
  have HT := Lib.hid ht
  clear hb ht
  go_wp2_with fail
  go_ret
  exact ⟨rfl, HB.out, Turn.grown' HG.out HT.out⟩

/-! ### Get -/
/-- a block of two cells: what it holds, and what it holds when both are put. -/
theorem Box.two {w : World} {b : Nat} {t : TypeId} {x y : Value} (h : Box w b t #[x, y]) (u v : Value) : w.cell? ⟨b, 0, none⟩ = some x ∧ w.cell? ⟨b, 1, none⟩ = some y ∧ w.frozen? ⟨b, 0, none⟩ = false ∧ w.frozen? ⟨b, 1, none⟩ = false ∧
    ((w.setCell ⟨b, 0, none⟩ u).setCell ⟨b, 1, none⟩ v).cell? ⟨b, 0, none⟩ = some u ∧ ((w.setCell ⟨b, 0, none⟩ u).setCell ⟨b, 1, none⟩ v).cell? ⟨b, 1, none⟩ = some v :=
  ⟨by rw [h.get]; rfl, by rw [h.get]; rfl, h.free 0, h.free 1, by rw [((h.put 0 u).put 1 v).get]; rfl, by rw [((h.put 0 u).put 1 v).get]; rfl⟩
def cellV (c : Cel) : Value := .agg #[.int .i64 c.v, .bool c.ok]
/-- a cell, and whether there is one. -/
def GaveCell (c : Cel) (b : Bool) (w : World) (e : Ending) (w' : World) : Prop := e = .returned (.tuple #[.agg #[.int .i64 c.v, .bool c.ok], .bool b]) ∧ w.grownBy w' none
theorem bufGet_no (w : World) (lo hi : Nat) (p : Option Addr) (l : List Cel) (i : Int) (hi' : I64 i) (h : BufP w lo hi p l) (hb : hasN l.length i 1 = false) :
    Calls Try.prog 14 #[.pointer p, .int .i64 i] w (GaveCell noCel false w) := by
  have H := Lib.hid h
  have HN := Lib.hid hb
  have HI := Lib.hid hi'
  clear h hb hi'
  go_enter Try.func14, Try.ntmps14
  go_wp2_with fail
  refine (bufhas_any p l i 1 HI.out ⟨by omega, by omega⟩ lo hi _ (H.out.grow (World.grownBy_alloc _ _ none))).mono ?_
  rw [HN.out]
  rintro e w1 ⟨rfl, hg⟩
  have hbx := (Box.fresh w 34 #[.int .i64 0, .bool false]).grown hg (by simp)
  obtain ⟨c0, c1, f0, f1, d0, d1⟩ := hbx.two (.int .i64 0) (.bool false)
  have HG := Lib.hid hg
  clear hg hbx
  go_wp2_with fail
  exact bodyPost_ret (v := .tuple #[.agg #[.int .i64 0, .bool false], .bool false]) (by simp [results, Try.results14, go_sem, d0, d1]) rfl ⟨rfl, grown_put (grown_put (grown_join (World.grownBy_alloc _ _ none) HG.out (.inr (by simp))) (.inr (Nat.le_refl _)) _) (.inr (Nat.le_refl _)) _⟩
theorem get_keep {w1 w2 : World} {lo hi g c r i n : Nat} {mp : Option Addr} {l : List Cel} {v : Value} (h : BufG w1 lo hi g mp (some ⟨r, 0, none⟩) c l) (hc : w1.cell? ⟨r, i, none⟩ = some v) (hg : (w1.drewN n).grownBy w2 none) :
    w2.cell? ⟨g, 0, none⟩ = some (.pointer mp) ∧ w2.cell? ⟨g, 1, none⟩ = some (.slice (some ⟨r, 0, none⟩) l.length c) ∧ w2.cell? ⟨r, i, none⟩ = some v :=
  ⟨((h.drewN n).grow hg).mask_cell, ((h.drewN n).grow hg).nums_cell, (World.cell?_of_block (hg.block r (World.block_lt_of_cell? w1 _ hc) (by simp))).trans hc⟩
theorem cell_two {w : World} {b : Nat} {u v x : Value} {p : Addr} (h : w.cell? p = some x) (hp : p.block ≠ b) : ((w.setCell ⟨b, 0, none⟩ u).setCell ⟨b, 1, none⟩ v).cell? p = some x := by
  rw [World.cell?_setCell_other _ _ _ _ (fun e => hp (by rw [← e])), World.cell?_setCell_other _ _ _ _ (fun e => hp (by rw [← e]))]
  exact h
theorem keep_two {w : World} {b : Nat} {u v x y z : Value} {p q r : Addr} (h : w.cell? p = some x ∧ w.cell? q = some y ∧ w.cell? r = some z) (hp : p.block ≠ b) (hq : q.block ≠ b) (hr : r.block ≠ b) :
    ((w.setCell ⟨b, 0, none⟩ u).setCell ⟨b, 1, none⟩ v).cell? p = some x ∧ ((w.setCell ⟨b, 0, none⟩ u).setCell ⟨b, 1, none⟩ v).cell? q = some y ∧ ((w.setCell ⟨b, 0, none⟩ u).setCell ⟨b, 1, none⟩ v).cell? r = some z :=
  ⟨cell_two h.1 hp, cell_two h.2.1 hq, cell_two h.2.2 hr⟩
theorem Box.grownN {w1 w2 : World} {b n : Nat} {t : TypeId} {cs : Array Value} (h : Box w1 b t cs) (hg : (w1.drewN n).grownBy w2 none) : Box w2 b t cs := Box.grown (w := w1.drewN n) h hg (by simp)
set_option maxHeartbeats 1000000 in
theorem bufGet_yes (w : World) (lo hi g : Nat) (mp A : Option Addr) (c : Nat) (l : List Cel) (i : Nat) (h : BufG w lo hi g mp A c l) (hlt : i < l.length) :
    Calls Try.prog 14 #[.pointer (some ⟨g, 0, none⟩), .int .i64 i] w (GaveCell (l.getD i noCel).norm true w) := by
  have H := Lib.hid h
  have hs := h.small
  have HN := Lib.hid (show hasN l.length (i : Int) 1 = true by rw [hasN_one]; simp; omega)
  have HE := Lib.hid (show tr (oks l) i = (l.getD i noCel).norm.ok by rw [tr_nat, oks_get, Cel.norm_ok])
  have HY := Lib.hid (show numL l i = (l.getD i noCel).norm.v from rfl)
  clear h
  generalize (l.getD i noCel).norm = y at *
  obtain ⟨yv, yo⟩ := y
  go_enter Try.func14, Try.ntmps14
  go_wp2_with fail
  refine (bufhas_any _ l i 1 ⟨by omega, by omega⟩ ⟨by omega, by omega⟩ lo hi _ (H.out.grow (World.grownBy_alloc _ _ none)).p).mono ?_
  rw [HN.out]
  rintro e w1 ⟨rfl, hg⟩
  have hbx := (Box.fresh w 34 #[.int .i64 0, .bool false]).grown hg (by simp)
  have HG := Lib.hid (grown_join (World.grownBy_alloc _ _ none) hg (.inr (by simp)))
  have hb := H.out.grow HG.out
  have g0 := hb.mask_cell
  have g1 := hb.nums_cell
  obtain ⟨r, rfl, _, _, gr, _⟩ := BufM.at_ hb hlt
  have HM := Lib.hid hb.mask.p
  have HBX := Lib.hid hbx
  have HHI := Lib.hid hb
  have i0 : (0 : Int) ≤ (i : Int) := by omega
  have i1 : (i : Int) < (l.length : Int) := by omega
  clear hg hbx hb
  rw [HY.out] at gr
  have HGR := Lib.hid gr
  have HNE : Hid (g ≠ w.heap.size ∧ r ≠ w.heap.size) := Lib.hid (by
    have h1 := H.out.2.2.1
    have h2 := H.out.2.1
    have h3 := (BufM.at_ H.out hlt)
    obtain ⟨r', e, _, h4, _⟩ := h3
    injection e with e; injection e with e
    omega)
  go_wp2_with fail
  go_region_held3 (fun w' => w'.cell? ⟨g, 0, none⟩ = some (.pointer mp) ∧ w'.cell? ⟨g, 1, none⟩ = some (.slice (some ⟨r, 0, none⟩) l.length c) ∧ w'.cell? ⟨r, i, none⟩ = some (.int .i64 yv)) (first | go_keep | exact KEEP.out | exact keep_two KEEP.out HNE.out.1 HNE.out.1 HNE.out.2) (first
    | (go_at_call 32; refine (there_any mp (oks l) i lo _ (HM.out.drewN _)).mono ?_; rw [HE.out]; rintro e w2 ⟨rfl, hg2⟩; have KEEP := Lib.hid (get_keep HHI.out HGR.out hg2); obtain ⟨c0, c1, f0, f1, d0, d1⟩ := (HBX.out.grownN hg2).two (.int .i64 yv) (.bool yo); have HG2 := Lib.hid (grown_join (grown_drewN HG.out _) hg2 (.inr (by simp))); clear hg2))
  all_goals go_wp2
  all_goals exact bodyPost_ret (v := .tuple #[.agg #[.int .i64 yv, .bool yo], .bool true]) (by simp [results, Try.results14, go_sem, d0, d1]) rfl ⟨rfl, grown_put (grown_put HG2.out (.inr (Nat.le_refl _)) _) (.inr (Nat.le_refl _)) _⟩

/-! ### Missing -/
def missN (l : List Cel) : Nat := l.length - cnt (oks l)
theorem bufMissing_any (p : Option Addr) (l : List Cel) (lo hi : Nat) (w : World) (h : BufP w lo hi p l) :
    Calls Try.prog 23 #[.pointer p] w (Gave (.int .i64 (missN l : Nat)) w) := by
  have H := Lib.hid h
  have hs := h.small
  have hc : cnt (oks l) ≤ l.length := by rw [← oks_length l]; exact popc_le _ _
  have HE := Lib.hid (show ((missN l : Nat) : Int) = (l.length : Int) - (cnt (oks l) : Int) by unfold missN; omega)
  clear h
  go_enter Try.func23, Try.ntmps23
  go_wp2_with fail
  refine (buflen_any p l lo hi _ H.out).mono ?_
  rintro e w1 ⟨rfl, hg1⟩
  have HG1 := Lib.hid hg1
  clear hg1
  go_wp2_with fail
  refine (some_any p l lo hi _ (H.out.grow HG1.out)).mono ?_
  rintro e w2 ⟨g, lo', hi', mp, A, c, rfl, hb, hg2, _⟩
  have c0 := hb.mask_cell
  have HM := Lib.hid hb.mask.p
  have HG2 := Lib.hid (grown_join HG1.out hg2 (.inr (by simp)))
  clear hb hg2
  go_wp2_with fail
  refine (marked_any mp (oks l) lo' _ HM.out).mono ?_
  rintro e w3 ⟨rfl, hg3⟩
  have HG3 := Lib.hid (grown_join HG2.out hg3 (.inr (by simp)))
  clear hg3
  go_wp2_with fail
  go_ret
  exact gave_eq (by rw [HE.out]; rfl) HG3.out
end Go.Proofs.Ytabkgdichlebmaa
