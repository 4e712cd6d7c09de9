/-
  buf.Norm, mark, Fill, Put: contracts.
-/
import Derived.Test.YtabkgdichlebmaaBuf
import Derived.Deep.RegionHeld3
namespace Go.Proofs.Ytabkgdichlebmaa
open Go.ChangeShapes Go.WideShapes Go.ChangeAt Go.RowKit
set_option linter.unusedVariables false

/-! ### Norm -/
theorem bufNorm_any (c : Cel) (w : World) : Calls Try.prog 26 #[.agg #[.int .i64 c.v, .bool c.ok]] w (Gave (.agg #[.int .i64 c.norm.v, .bool c.ok]) w) := by
  obtain ⟨v, ok⟩ := c
  cases ok
  · go_enter Try.func26, Try.ntmps26
    go_wp2_with fail
    exact bodyPost_ret (v := .agg #[.int .i64 0, .bool false]) (by simp [results, Try.results26, go_sem]) rfl ⟨rfl, grown_alloc (grown_alloc (grown_refl _ _) _) _⟩
  · go_enter Try.func26, Try.ntmps26
    go_wp2_with fail
    exact bodyPost_ret (v := .agg #[.int .i64 v, .bool true]) (by simp [results, Try.results26, go_sem]) rfl ⟨rfl, grown_alloc (grown_alloc (grown_refl _ _) _) _⟩

/-! ### lists of cells with some filled -/
def ctab (n : Nat) (f : Nat → Cel) : List Cel := (List.range n).map f
theorem ctab_length (n : Nat) (f : Nat → Cel) : (ctab n f).length = n := by simp [ctab]
theorem ctab_get (n : Nat) (f : Nat → Cel) (i : Nat) (h : i < n) : (ctab n f).getD i noCel = f i := by simp [ctab, List.getD, h]
theorem ctab_self (l : List Cel) : ctab l.length (fun i => l.getD i noCel) = l := cels_eq (ctab_length _ _) fun i hi => by rw [ctab_length] at hi; exact ctab_get _ _ _ hi
theorem ctab_congr {n : Nat} {f f' : Nat → Cel} (h : ∀ i, i < n → f i = f' i) : ctab n f = ctab n f' :=
  cels_eq (by rw [ctab_length, ctab_length]) fun i hi => by rw [ctab_length] at hi; rw [ctab_get _ _ _ hi, ctab_get _ _ _ hi, h i hi]
def fillC (l : List Cel) (f t : Nat) (c : Cel) : List Cel := ctab l.length fun i => if f ≤ i ∧ i < t then c else l.getD i noCel
theorem fillC_length (l : List Cel) (f t : Nat) (c : Cel) : (fillC l f t c).length = l.length := ctab_length _ _
theorem fillC_get (l : List Cel) (f t : Nat) (c : Cel) (i : Nat) (h : i < l.length) : (fillC l f t c).getD i noCel = if f ≤ i ∧ i < t then c else l.getD i noCel := ctab_get _ _ _ h
theorem fillC_none (l : List Cel) (f : Nat) (c : Cel) : fillC l f f c = l := by
  have : fillC l f f c = ctab l.length fun i => l.getD i noCel := ctab_congr fun i _ => if_neg (by omega)
  rw [this, ctab_self]
theorem oks_fillC (l : List Cel) (f t : Nat) (c : Cel) (ht : t ≤ l.length) : oks (fillC l f t c) = fillL (oks l) f t c.ok := by
  refine list_eq (by rw [fillL_length, oks_length, oks_length, fillC_length]) fun i hi => ?_
  rw [oks_length, fillC_length] at hi
  rw [oks_get, fillC_get _ _ _ _ _ hi, fillL_get _ _ _ _ _ (by rw [oks_length]; exact ht), oks_get]
  split <;> rfl
theorem numL_fillC (l : List Cel) (f t : Nat) (c : Cel) (i : Nat) (h : i < l.length) : numL (fillC l f t c) i = if f ≤ i ∧ i < t then c.norm.v else numL l i := by
  unfold numL
  rw [fillC_get _ _ _ _ _ h]
  split <;> rfl
theorem numsV_set (l l' : List Cel) (i : Nat) (hl : l'.length = l.length) (hi : i < l.length) (hf : ∀ j, j < l.length → j ≠ i → numL l' j = numL l j) : (numsV l).set i (.int .i64 (numL l' i)) = numsV l' := by
  apply List.ext_getElem?
  intro j
  rw [List.getElem?_set, numsV_length]
  by_cases hj : j < l.length
  · rw [numsV_get l' j (by omega), numsV_get l j hj]
    by_cases e : i = j
    · subst e; rw [if_pos rfl, if_pos hi]
    · rw [if_neg e, hf j hj (Ne.symm e)]
  · rw [if_neg (by omega), List.getElem?_eq_none (by rw [numsV_length]; omega), List.getElem?_eq_none (by rw [numsV_length]; omega)]

section
variable {w w' : World} {lo hi g c : Nat} {mp A : Option Addr} {l : List Cel} {M : List Bool}
/-- a number is put. -/
theorem BufM.put {r i : Nat} {l' : List Cel} (h : BufM w lo hi g mp (some ⟨r, 0, none⟩) c M l) (hl : l'.length = l.length) (hi' : i < l.length) (hf : ∀ j, j < l.length → j ≠ i → numL l' j = numL l j) (u : Int) (hu : u = numL l' i) :
    BufM (w.setCell ⟨r, i, none⟩ (.int .i64 u)) lo hi g mp (some ⟨r, 0, none⟩) c M l' := by
  subst hu
  obtain ⟨h1, h2, h3, h4, h5, h6, h7, h8⟩ := h
  have hg : w.grownBy (w.setCell ⟨r, i, none⟩ (.int .i64 (numL l' i))) (some r) := grown_put (grown_refl w _) (.inl rfl) _
  have hst := (h7.stored i (.int .i64 (numL l' i))).1
  rw [numsV_set l l' i hl hi' hf] at hst
  have a1 := own_apart h7 h5 (by decide)
  refine ⟨h1, h2, by simpa [World.setCell] using h3, by omega, ?_, ?_, by rw [hl]; exact hst, h8⟩
  · rw [hl]
    exact h5.grown hg (fun e => a1 e.symm)
  · rcases h6 with h6 | ⟨g', A', k', c', e, hlt, hm, hA⟩
    · exact .inl h6
    · refine .inr ⟨g', A', k', c', e, hlt, ?_, hA⟩
      have a2 := own_apart h7 hm.2.2.1 (by decide)
      have a3 := own_own_apart hm.2.2.2 h7 (by decide)
      rw [map_own, map_own] at a3
      exact hm.grown hg (fun e => a2 e) a3
theorem BufM.at_ (h : BufM w lo hi g mp A c M l) {i : Nat} (hi' : i < l.length) : ∃ r, A = some ⟨r, 0, none⟩ ∧ lo ≤ r ∧ r < hi ∧ w.cell? ⟨r, i, none⟩ = some (.int .i64 (numL l i)) ∧ w.frozen? ⟨r, i, none⟩ = false := by
  obtain ⟨r, rfl, hb, _, _, _⟩ := own_form h.own (by omega)
  refine ⟨r, rfl, hb, (h.2.2.2.2.2.2.2 r rfl).2, ?_, h.own.frozenAt i⟩
  rw [h.own.cellAt i (by omega)]
  exact numsV_get l i hi'
/-- the marks have turned. -/
theorem BufM.marked {g' k' c' : Nat} {A' : Option Addr} {M' : List Bool} (h : BufM w lo hi g (some ⟨g', 0, none⟩) A c M l) (hlt : g' < hi) (hA : ∀ x, A'.map (·.block) = some x → lo ≤ x ∧ x < hi) (hold : Mask w lo g' A' k' c' M)
    (hm : Mask w' lo g' A' k' c' M') (hg : w.grownBy w' (A'.map (·.block))) : BufM w' lo hi g (some ⟨g', 0, none⟩) A c M' l := by
  obtain ⟨h1, h2, h3, h4, h5, h6, h7, h8⟩ := h
  have a1 := own_apart hold.2.2.2 h5 (by decide)
  have a2 := own_own_apart h7 hold.2.2.2 (by decide)
  rw [map_own] at a1
  rw [map_own, map_own] at a2
  refine ⟨h1, h2, Nat.le_trans h3 hg.size, h4, h5.grown hg (fun e => a1 e.symm), .inr ⟨g', A', k', c', rfl, hlt, hm, hA⟩, h7.kept hg ?_, h8⟩
  rw [map_own]
  exact a2
end

/-! ### mark -/
theorem field_num (a : Int) (b : Bool) (w : World) : (Instr.field 34 (.agg #[.int .i64 a, .bool b]) 0).run Try.prog w = .ok (.int .i64 a) w := by kernel_rfl
theorem maskFill_any (w : World) (lo hi g : Nat) (mp A : Option Addr) (c : Nat) (M : List Bool) (l : List Cel) (f t : Int) (b : Bool) (h : BufM w lo hi g mp A c M l) :
    Calls Try.prog 39 #[.pointer mp, .int .i64 f, .int .i64 t, .bool b] w fun e w' => e = .returned (.bool (fillB M f t)) ∧ BufM w' lo hi g mp A c (fillE M f t b) l ∧ Turn lo hi w w' := by
  have h0 := h
  rcases h.mask with ⟨rfl, rfl⟩ | ⟨g', A', k', c', rfl, hlt, hm, hA⟩
  · by_cases hd : 0 ≤ f ∧ f ≤ t ∧ t ≤ (([] : List Bool).length : Int)
    · obtain rfl : f = 0 := by simp at hd; omega
      obtain rfl : t = 0 := by simp at hd; omega
      refine (fill_nil b w).mono fun e w' ⟨h1, h2⟩ => ?_
      subst h2
      exact ⟨h1, h0, Turn.refl _ _ _⟩
    · have hb : fillB [] f t = false := decide_eq_false hd
      unfold fillE
      rw [hb, if_neg (by simp)]
      refine (fill_bad none [] f t b 0 w (MaskP.nil _ _) hd).mono fun e w' ⟨h1, h2⟩ => ?_
      subst h2
      exact ⟨h1, h0, Turn.refl _ _ _⟩
  · refine (fill_all g' A' k' c' M f t b lo w hm).mono fun e w' ⟨h1, h2, h3⟩ => ?_
    exact ⟨h1, h0.marked hlt hA hm h2 h3, Turn.of_row h3 hA⟩
theorem mark_any (w : World) (lo hi g : Nat) (mp A : Option Addr) (c : Nat) (M : List Bool) (l : List Cel) (f t : Int) (b : Bool) (h : BufM w lo hi g mp A c M l) :
    Calls Try.prog 30 #[.agg #[.pointer mp], .int .i64 f, .int .i64 t, .bool b] w fun e w' => e = .returned (.bool (fillB M f t)) ∧ BufM w' lo hi g mp A c (fillE M f t b) l ∧ Turn lo hi w w' := by
  have H := Lib.hid h
  clear h
  go_enter Try.func30, Try.ntmps30
  go_wp2_with fail
  refine (maskFill_any _ lo hi g mp A c M l f t b (H.out.grow (World.grownBy_alloc _ _ none))).mono ?_
  rintro e w1 ⟨rfl, hb, ht⟩
  have HB := Lib.hid hb
  have HT := Lib.hid ht
  clear hb ht
  go_wp2_with fail
  go_ret
  exact ⟨rfl, HB.out, Turn.grown' (World.grownBy_alloc _ _ none) HT.out⟩

/-! ### Fill -/
/-- what Fill leaves. -/
def Fills (w : World) (lo hi g : Nat) (mp A : Option Addr) (c : Nat) (x : Bool) (l : List Cel) (e : Ending) (w' : World) : Prop :=
  e = .returned (.bool x) ∧ BufG w' lo hi g mp A c l ∧ Turn lo hi w w'
/-- what Fill or Put leave where there is no such place. -/
def Left (w : World) (lo hi : Nat) (p : Option Addr) (l : List Cel) (e : Ending) (w' : World) : Prop := e = .returned (.bool false) ∧ BufP w' lo hi p l ∧ Turn lo hi w w'
set_option maxHeartbeats 1000000 in
theorem bufFill_no (w : World) (lo hi : Nat) (p : Option Addr) (l : List Cel) (f t : Int) (x : Cel) (h : BufP w lo hi p l) (hb : fillB (oks l) f t = false) :
    Calls Try.prog 11 #[.pointer p, .int .i64 f, .int .i64 t, .agg #[.int .i64 x.v, .bool x.ok]] w (Left w lo hi p l) := by
  have H := Lib.hid h
  have HN := Lib.hid hb
  obtain ⟨v, ok⟩ := x
  clear h hb
  go_enter Try.func11, Try.ntmps11
  go_wp2_with fail
  refine (some_any p l lo hi _ (H.out.grow (World.grownBy_alloc _ _ none))).mono ?_
  rintro e w1 ⟨g, lo', hi', mp, A, c, rfl, hb, hg, ho⟩
  have c0 := hb.mask_cell
  have hbx := (Box.fresh w 34 #[.int .i64 v, .bool ok]).grown hg (by simp)
  have c1 : w1.cell? ⟨w.heap.size, 1, none⟩ = some (.bool ok) := by rw [hbx.get]; rfl
  have HLT := Lib.hid hbx.small
  have HO : Hid (w.heap.size < lo' ∨ hi' ≤ w.heap.size) := Lib.hid (by
    rcases ho with ⟨rfl, rfl, h, rfl⟩ | ⟨h, _, _⟩
    · rcases H.out with ⟨e, _⟩ | ⟨_, _, _, _, _, h⟩
      · cases e
      · exact .inr h.2.2.1
    · simp at h; exact .inl (by omega))
  have HQ : Hid (∀ w2, BufM w2 lo' hi' g mp A c (oks l) l → Turn lo' hi' (w1.drewN 1) w2 → BufP w2 lo hi p l ∧ Turn lo hi w w2) := Lib.hid (by
    intro w2 hm ht
    rcases ho with ⟨rfl, rfl, h, rfl⟩ | ⟨h, rfl, rfl⟩
    · exact ⟨BufG.p hm, Turn.grown' (World.grownBy_alloc _ _ none) (Turn.grown' hg ht)⟩
    · refine ⟨BufP.nil _ _ _, Turn.of_grown ?_⟩
      exact Turn.after (grown_join (World.grownBy_alloc _ _ none) hg (.inr (by simp))) ht (by simp at h ⊢; omega))
  have HB := Lib.hid hb
  clear hbx hb hg ho
  go_wp2_with fail
  go_region_held3 (fun w' => w'.cell? ⟨g, 0, none⟩ = some (.pointer mp) ∧ w'.cell? ⟨w.heap.size, 1, none⟩ = some (.bool ok)) (go_keep) (first
    | (go_at_call 30; refine (mark_any _ lo' hi' g mp A c (oks l) l f t ok (HB.out.drewN _)).mono ?_; rintro e w2 ⟨rfl, hb2, ht2⟩; have k0 := hb2.mask_cell; have k1 := (ht2.cell (p := ⟨w.heap.size, 1, none⟩) HLT.out HO.out).trans c1; have HB2 := Lib.hid hb2; have HT2 := Lib.hid ht2; clear hb2 ht2; rw [HN.out]))
  all_goals go_wp2
  all_goals go_ret
  all_goals
    have h2 := HB2.out
    unfold fillE at h2
    rw [HN.out, if_neg (by simp)] at h2
    exact ⟨rfl, HQ.out _ h2 HT2.out⟩
set_option maxHeartbeats 1000000 in
theorem bufFill_yes (w : World) (lo hi g : Nat) (mp A : Option Addr) (c : Nat) (l : List Cel) (f t : Nat) (x : Cel) (h : BufG w lo hi g mp A c l) (hft : f ≤ t) (ht : t ≤ l.length) :
    Calls Try.prog 11 #[.pointer (some ⟨g, 0, none⟩), .int .i64 f, .int .i64 t, .agg #[.int .i64 x.v, .bool x.ok]] w (Fills w lo hi g mp A c true (fillC l f t x)) := by
  have H := Lib.hid h
  have HN := Lib.hid (show fillB (oks l) (f : Int) (t : Int) = true from decide_eq_true ⟨by omega, by omega, by rw [oks_length]; omega⟩)
  have hs := h.small
  obtain ⟨v, ok⟩ := x
  clear h
  go_enter Try.func11, Try.ntmps11
  go_wp2_with fail
  refine (some_ptr _ _).mono ?_
  rintro e w1 ⟨rfl, hww⟩
  have hbw := H.out.grow (World.grownBy_alloc w (.cells #[.int .i64 v, .bool ok] 34) none)
  rw [← hww] at hbw
  have c0 := hbw.mask_cell
  have c1 : w1.cell? ⟨w.heap.size, 1, none⟩ = some (.bool ok) := by rw [hww, (Box.fresh w _ _).get]; rfl
  have c2 : w1.cell? ⟨w.heap.size, 0, none⟩ = some (.int .i64 v) := by rw [hww, (Box.fresh w _ _).get]; rfl
  have HBW := Lib.hid hbw
  have HLT := Lib.hid (show w.heap.size < w1.heap.size by rw [hww]; simp)
  have HHI := Lib.hid H.out.2.2.1
  have HWW := Lib.hid hww
  clear hbw hww
  go_wp2_with fail
  go_region_held3 (fun w' => w'.cell? ⟨g, 0, none⟩ = some (.pointer mp) ∧ w'.cell? ⟨w.heap.size, 1, none⟩ = some (.bool ok)) (go_keep) (first
    | (go_at_call 30; refine (mark_any _ lo hi g mp A c (oks l) l f t ok (HBW.out.drewN _)).mono ?_; rintro e w2 ⟨rfl, hb2, ht2⟩; have k0 := hb2.mask_cell; have k1 := (ht2.cell (p := ⟨w.heap.size, 1, none⟩) HLT.out (.inr HHI.out)).trans c1; have k2 := (ht2.cell (p := ⟨w.heap.size, 0, none⟩) HLT.out (.inr HHI.out)).trans c2; have HB2 := Lib.hid hb2; have HT2 := Lib.hid ht2; clear hb2 ht2; rw [HN.out]))
  all_goals
    have h2 := HB2.out
    unfold fillE at h2
    rw [HN.out, if_pos rfl, Int.toNat_natCast, Int.toNat_natCast] at h2
    have HBM := Lib.hid h2
    clear h2 HB2
    go_wp2_with fail
    refine (bufNorm_any ⟨v, ok⟩ _).mono ?_
    rintro e w3 ⟨rfl, hg3⟩
    have HI : Hid (BufM w3 lo hi g mp A c (fillL (oks l) f t ok) (fillC l f f ⟨v, ok⟩) ∧ Turn lo hi w w3) := by
      rw [fillC_none]
      refine Lib.hid ⟨HBM.out.grow hg3, (Turn.grown' (World.grownBy_alloc w (.cells #[.int .i64 v, .bool ok] 34) none) ?_).grown hg3⟩
      rw [← HWW.out]
      exact HT2.out
    clear hg3
    have hfld := field_num (Cel.norm ⟨v, ok⟩).v ok w3
    go_wp2_with fail
    go_loopw [10] (fun i wr => ∃ x : Nat, f ≤ x ∧ x ≤ t ∧ i = .int .i64 x ∧ BufM wr lo hi g mp A c (fillL (oks l) f t ok) (fillC l f x ⟨v, ok⟩) ∧ Turn lo hi w wr) (fun i _ => t - (intOf i).toNat)
    case atStart => exact ⟨f, Nat.le_refl _, hft, rfl, HI.out.1, HI.out.2⟩
    case round =>
      obtain ⟨x, hx1, hx2, rfl, hbm, hturn⟩ := hrel
      have HT3 := Lib.hid hturn
      have hn := hbm.nums_cell
      rw [fillC_length] at hn
      by_cases hlt : x < t
      · obtain ⟨r, rfl, hr1, hr2, hc, hfz⟩ := hbm.at_ (i := x) (by rw [fillC_length]; omega)
        have HBM3 := Lib.hid hbm
        clear hbm hturn
        go_wp2
        go_roundw
        case rel => exact ⟨x + 1, by omega, by omega, by go_num, HBM3.out.put (by rw [fillC_length, fillC_length]) (by rw [fillC_length]; omega) (fun j hj hne => by
            rw [fillC_length] at hj
            rw [numL_fillC _ _ _ _ _ hj, numL_fillC _ _ _ _ _ hj]
            by_cases hh : f ≤ j ∧ j < x
            · rw [if_pos (by omega), if_pos hh]
            · rw [if_neg (by omega), if_neg hh]) _ (by rw [numL_fillC _ _ _ _ _ (by omega), if_pos (by omega)]), HT3.out.trans (Turn.of_row (r := some r) (grown_put (grown_refl _ _) (.inl rfl) _) (fun y hy => by injection hy with hy; omega))⟩
        case measure => simp [intOf]; omega
      · obtain rfl : x = t := by omega
        have HBM3 := Lib.hid hbm
        clear hbm hturn
        go_wp2
        go_ret
        refine ⟨rfl, ?_, HT3.out⟩
        have h3 := HBM3.out
        show BufM _ _ _ _ _ _ _ _ _
        rw [oks_fillC _ _ _ _ ht]
        exact h3
end Go.Proofs.Ytabkgdichlebmaa
