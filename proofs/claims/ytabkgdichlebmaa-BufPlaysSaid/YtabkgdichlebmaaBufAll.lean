/-
  buf.Clone, Same, Of, Cells: contracts.
-/
import Derived.Test.YtabkgdichlebmaaBufMake
namespace Go.Proofs.Ytabkgdichlebmaa
open Go.ChangeShapes Go.WideShapes Go.ChangeAt Go.RowKit
set_option linter.unusedVariables false

theorem clone_end {w X : World} {q : Addr} {c' : Nat} {A' : Option Addr} {l : List Cel} (hl : l.length ≤ 1048576) (hm : MaskI X w.heap.size X.heap.size (some q) (oks l)) (ho : X.ownsRow w.heap.size 2 1 (.slice A' l.length c') l.length (numsV l)) (hg : w.grownBy X none) :
    NewBuf l w (.returned (.pointer (some ⟨X.heap.size, 0, none⟩))) (X.alloc (.cells #[.pointer (some q), .slice A' l.length c'] 65)) := buf_built rfl hl hm ho hg
set_option maxHeartbeats 1000000 in
theorem bufClone_any (p : Option Addr) (l : List Cel) (lo hi : Nat) (w : World) (h : BufP w lo hi p l) :
    Calls Try.prog 25 #[.pointer p] w (NewBuf l w) := by
  have H := Lib.hid h
  have hs := h.small
  clear h
  go_enter Try.func25, Try.ntmps25
  go_wp2_with fail
  refine (some_any p l lo hi _ H.out).mono ?_
  rintro e w1 ⟨g, lo', hi', mp, A, c, rfl, hb, hg1, _⟩
  have c0 := hb.mask_cell
  have c1 := hb.nums_cell
  have HB := Lib.hid hb
  have HG1 := Lib.hid hg1
  clear hb hg1
  go_wp2_with fail
  go_region_held3 (fun w' => w'.cell? ⟨g, 0, none⟩ = some (.pointer mp) ∧ w'.cell? ⟨g, 1, none⟩ = some (.slice A l.length c)) (first | go_keep | exact KEEP2.out | exact KEEP3.out | exact KEEP.out) (first
    | (go_at_call 36; refine (copied_any mp (oks l) lo' _ HBX.out.mask.p).mono ?_; rintro e w2 ⟨q, rfl, hm, hg2⟩; have HM := Lib.hid hm; have HG2 := Lib.hid (grown_join HGX.out hg2 (.inr (by simp))); have HBX := Lib.hid (HBX.out.grow hg2); have HOX := Lib.hid (own_grow HOX.out hg2); have KEEP3 := Lib.hid (And.intro HBX.out.mask_cell HBX.out.nums_cell); clear hm hg2)
    | (go_at_call 36; refine (copied_any mp (oks l) lo' _ (HB.out.drewN _).mask.p).mono ?_; rintro e w2 ⟨q, rfl, hm, hg2⟩; have HM := Lib.hid hm; have HG2 := Lib.hid (grown_join (grown_drewN HG1.out _) hg2 (.inr (by simp))); have HBY := Lib.hid ((HB.out.drewN _).grow hg2); have KEEP := Lib.hid (And.intro HBY.out.mask_cell HBY.out.nums_cell); clear hm hg2)
    | (go_at_call 37; refine (iclone_any A c l lo' _ HBY.out.own hs).mono ?_; rintro e w3 ⟨A', c', rfl, ho, hg3⟩; have HO := Lib.hid ho; have HG3 := Lib.hid (grown_join HG2.out hg3 (.inr (by simp))); have HMX := Lib.hid (HM.out.grow hg3); have HG3L := Lib.hid hg3.size; have HBZ := Lib.hid (HBY.out.grow hg3); have KEEP2 := Lib.hid (And.intro HBZ.out.mask_cell HBZ.out.nums_cell); clear ho hg3)
    | (go_at_call 37; refine (iclone_any A c l lo' _ (HB.out.drewN _).own hs).mono ?_; rintro e w2 ⟨A', c', rfl, ho, hg2⟩; have HOX := Lib.hid ho; have HGX := Lib.hid (grown_join (grown_drewN HG1.out _) hg2 (.inr (by simp))); have HBX := Lib.hid ((HB.out.drewN _).grow hg2); have KEEP := Lib.hid (And.intro HBX.out.mask_cell HBX.out.nums_cell); clear ho hg2))
  all_goals go_wp2
  all_goals go_ret
  all_goals (first
    | exact clone_end hs (HMX.out.more HG1.out.size HG3L.out) (own_lower HO.out HG2.out.size) HG3.out
    | exact clone_end hs (HM.out.more HGX.out.size (Nat.le_refl _)) (own_lower HOX.out HG1.out.size) HG2.out)

/-! ### Same -/
theorem four_cells {w w' : World} {lo hi lo' hi' g g' c c' n : Nat} {mp mp' A A' : Option Addr} {l l' : List Cel} (h : BufG w lo hi g mp A c l) (h' : BufG w lo' hi' g' mp' A' c' l') (hg : (w.drewN n).grownBy w' none) :
    w'.cell? ⟨g, 0, none⟩ = some (.pointer mp) ∧ w'.cell? ⟨g, 1, none⟩ = some (.slice A l.length c) ∧ w'.cell? ⟨g', 0, none⟩ = some (.pointer mp') ∧ w'.cell? ⟨g', 1, none⟩ = some (.slice A' l'.length c') :=
  ⟨((h.drewN n).grow hg).mask_cell, ((h.drewN n).grow hg).nums_cell, ((h'.drewN n).grow hg).mask_cell, ((h'.drewN n).grow hg).nums_cell⟩
theorem same_cels (l l' : List Cel) : (sameI l.length l'.length (numL l) (numL l') && decide (oks l = oks l')) = decide (norms l = norms l') := by
  unfold sameI
  rw [Bool.eq_iff_iff]
  simp only [Bool.and_eq_true, decide_eq_true_eq]
  rw [norms_eq_iff]
  constructor
  · intro ⟨⟨a, b⟩, c⟩; exact ⟨a, b, c⟩
  · intro ⟨a, b, c⟩; exact ⟨⟨a, b⟩, c⟩
set_option maxHeartbeats 1000000 in
theorem bufSame_any (p p' : Option Addr) (l l' : List Cel) (lo hi lo' hi' : Nat) (w : World) (h : BufP w lo hi p l) (h' : BufP w lo' hi' p' l') :
    Calls Try.prog 24 #[.pointer p, .pointer p'] w (Gave (.bool (decide (norms l = norms l'))) w) := by
  have H := Lib.hid h
  have H' := Lib.hid h'
  have hs := h.small
  have hs' := h'.small
  clear h h'
  go_enter Try.func24, Try.ntmps24
  go_wp2_with fail
  refine (some_any p l lo hi _ H.out).mono ?_
  rintro e w1 ⟨g, _, _, mp, A, c, rfl, hb, hg1, _⟩
  have HG1 := Lib.hid hg1
  have HB1 := Lib.hid hb
  clear hb hg1
  go_wp2_with fail
  refine (some_any p' l' lo' hi' _ (H'.out.grow HG1.out)).mono ?_
  rintro e w2 ⟨g', _, _, mp', A', c', rfl, hb', hg2, _⟩
  have hb := HB1.out.grow hg2
  have c0 := hb.mask_cell
  have c1 := hb.nums_cell
  have d0 := hb'.mask_cell
  have d1 := hb'.nums_cell
  have HB := Lib.hid hb
  have HB' := Lib.hid hb'
  have HG2 := Lib.hid (grown_join HG1.out hg2 (.inr (by simp)))
  clear hb hb' hg2
  go_wp2_with fail
  have HE := Lib.hid (same_cels l l')
  cases hq : sameI l.length l'.length (numL l) (numL l')
  · rw [hq, Bool.false_and] at HE
    have HQ := Lib.hid hq
    clear hq
    have HC : Hid (∀ m, Calls Try.prog 34 #[.slice A l.length c, .slice A' l'.length c'] (w2.drewN m) fun e w' => e = .returned (.bool false) ∧ ∃ m', w' = (w2.drewN m).drewN m') := Lib.hid fun m => by
      have h := iequal_any A A' l.length l'.length c c' (numL l) (numL l') _ _ (w2.drewN m) (HB.out.drewN m).sees (HB'.out.drewN m).sees hs hs'
      rw [HQ.out] at h
      exact h.mono fun e w' hh => hh
    go_quiet ((go_at_call 34; exact Calls.quiet_of (HC.out _)))
    go_wp2
    go_ret
    exact gave_eq (by rw [← HE.out]; rfl) (grown_drewN HG2.out _)
  · rw [hq, Bool.true_and] at HE
    have HQ := Lib.hid hq
    clear hq
    generalize decide (norms l = norms l') = y at *
    generalize hz : decide (oks l = oks l') = z at *
    have HZ := Lib.hid hz
    clear hz
    go_region_held3 (fun w' => w'.cell? ⟨g, 0, none⟩ = some (.pointer mp) ∧ w'.cell? ⟨g, 1, none⟩ = some (.slice A l.length c) ∧ w'.cell? ⟨g', 0, none⟩ = some (.pointer mp') ∧ w'.cell? ⟨g', 1, none⟩ = some (.slice A' l'.length c')) (first | go_keep | exact KEEP.out) (first
      | (go_at_call 34; refine (iequal_any A A' l.length l'.length c c' (numL l) (numL l') _ _ _ (HB.out.drewN _).sees (HB'.out.drewN _).sees hs hs').mono ?_; rintro e w3 ⟨rfl, m3, hww⟩; subst hww; rw [HQ.out])
      | (go_at_call 35; refine (alike_any mp mp' (oks l) (oks l') _ _ _ (HB.out.drewN _).mask.p (HB'.out.drewN _).mask.p).mono ?_; rw [HZ.out]; rintro e w4 ⟨rfl, hg4⟩; have KEEP := Lib.hid (four_cells HB.out HB'.out hg4); have HG4 := Lib.hid (grown_join (grown_drewN HG2.out _) hg4 (.inr (by simp))); clear hg4))
    all_goals go_wp2
    all_goals go_ret
    all_goals exact gave_eq (by rw [← HE.out]; rfl) HG4.out

/-! ### slices of cells, Of -/
/-- the slice at A holds these cells, below block B. -/
def Cels (w : World) (B : Nat) (A : Option Addr) (n : Nat) (l : List Cel) : Prop :=
  l.length = n ∧ (0 < n → ∃ b off, A = some ⟨b, off, none⟩ ∧ b < B ∧ ∀ k, k < n → w.cell? ⟨b, off + k * 2, none⟩ = some (.int .i64 (l.getD k noCel).v) ∧ w.cell? ⟨b, off + k * 2 + 1, none⟩ = some (.bool (l.getD k noCel).ok))
section
variable {w w' : World} {B B' n : Nat} {A : Option Addr} {l : List Cel}
theorem Cels.keep (h : Cels w B A n l) (hk : ∀ p : Addr, p.block < B → w'.cell? p = w.cell? p) : Cels w' B A n l :=
  ⟨h.1, fun h0 => by
    obtain ⟨b, off, e, hb, hc⟩ := h.2 h0
    exact ⟨b, off, e, hb, fun k hk' => ⟨(hk _ hb).trans (hc k hk').1, (hk _ hb).trans (hc k hk').2⟩⟩⟩
theorem Cels.below (h : Cels w B A n l) (hb : Below B w w') : Cels w' B A n l := h.keep fun _ hp => hb.cell hp
theorem Cels.more (h : Cels w B A n l) (hB : B ≤ B') : Cels w B' A n l :=
  ⟨h.1, fun h0 => by
    obtain ⟨b, off, e, hb, hc⟩ := h.2 h0
    exact ⟨b, off, e, by omega, hc⟩⟩
theorem Cels.drewN (h : Cels w B A n l) (m : Nat) : Cels (w.drewN m) B A n l := h
theorem Cels.grow (h : Cels w w.heap.size A n l) (hg : w.grownBy w' none) : Cels w' w'.heap.size A n l := (h.below (below_of_grown hg)).more hg.size
theorem Cels.at_ (h : Cels w B A n l) {k : Nat} (hk : k < n) : ∃ b off, A = some ⟨b, off, none⟩ ∧ b < B ∧ w.cell? ⟨b, off + k * 2, none⟩ = some (.int .i64 (l.getD k noCel).v) ∧ w.cell? ⟨b, off + k * 2 + 1, none⟩ = some (.bool (l.getD k noCel).ok) := by
  obtain ⟨b, off, e, hb, hc⟩ := h.2 (by omega)
  exact ⟨b, off, e, hb, (hc k hk).1, (hc k hk).2⟩
end
def headC (l : List Cel) (x : Nat) : List Cel := ctab l.length fun i => if i < x then l.getD i noCel else noCel
theorem headC_length (l : List Cel) (x : Nat) : (headC l x).length = l.length := ctab_length _ _
theorem headC_zero (l : List Cel) : headC l 0 = blanks l.length :=
  cels_eq (by rw [headC_length, blanks_length]) fun i hi => by
    rw [headC_length] at hi
    rw [blanks_get]
    unfold headC
    rw [ctab_get _ _ _ hi, if_neg (by omega)]
theorem headC_all (l : List Cel) : headC l l.length = l := by
  have : headC l l.length = ctab l.length fun i => l.getD i noCel := ctab_congr fun i hi => if_pos hi
  rw [this, ctab_self]
theorem headC_step (l : List Cel) (x : Nat) : fillC (headC l x) x (x + 1) (l.getD x noCel) = headC l (x + 1) := by
  refine cels_eq (by rw [fillC_length, headC_length, headC_length]) fun i hi => ?_
  rw [fillC_length, headC_length] at hi
  rw [fillC_get _ _ _ _ _ (by rw [headC_length]; exact hi)]
  unfold headC
  rw [ctab_get _ _ _ hi, ctab_get _ _ _ hi]
  by_cases h1 : i < x
  · rw [if_neg (by omega), if_pos h1, if_pos (by omega)]
  · by_cases h2 : i = x
    · subst h2
      rw [if_pos (by omega), if_pos (by omega)]
    · rw [if_neg (by omega), if_neg h1, if_neg (by omega)]
set_option maxHeartbeats 1000000 in
theorem bufOf_any (A : Option Addr) (n c : Nat) (l : List Cel) (w : World) (h : Cels w w.heap.size A n l) (hn : n ≤ 1048576) :
    Calls Try.prog 7 #[.slice A n c] w (NewBuf l w) := by
  have H := Lib.hid h
  have HL := Lib.hid h.1
  have emin : (if (1048576 : Int) < (n : Int) then (1048576 : Int) else (n : Int)) = n := if_neg (by omega)
  clear h
  go_enter Try.func7, Try.ntmps7
  go_wp2_with fail
  refine (bblank_any n hn w).mono ?_
  rintro e w1 ⟨g, mp, A', c', rfl, hb, hg⟩
  have hc := hb.nums_cell
  rw [blanks_length] at hc
  rw [← HL.out, ← headC_zero] at hb
  have HB := Lib.hid hb
  have HG := Lib.hid hg
  clear hb hg
  go_wp2_with fail
  go_loopw [14] (fun i wr => ∃ x : Nat, x ≤ n ∧ i = .int .i64 x ∧ BufG wr w.heap.size w1.heap.size g mp A' c' (headC l x) ∧ w.grownBy wr none) (fun i _ => n - (intOf i).toNat)
  case atStart => exact ⟨0, by omega, rfl, HB.out, HG.out⟩
  case round =>
    obtain ⟨x, hx, rfl, hb, hg⟩ := hrel
    by_cases hlt : x < n
    · obtain ⟨b, off, rfl, hbb, hc1, hc2⟩ := (H.out.below (below_of_grown hg)).at_ hlt
      have HP := Lib.hid (bufPut_yes wr w.heap.size w1.heap.size g mp A' c' _ x (l.getD x noCel) hb (by rw [headC_length, HL.out]; exact hlt))
      rw [headC_step] at HP
      have HB2 := Lib.hid hb
      have HG2 := Lib.hid hg
      clear hb hg
      generalize l.getD x noCel = y at *
      obtain ⟨yv, yo⟩ := y
      go_wp2_with fail
      refine HP.out.mono ?_
      rintro e w2 ⟨rfl, hb3, ht3⟩
      have HB3 := Lib.hid hb3
      have HT3 := Lib.hid ht3
      clear hb3 ht3
      go_wp2_with fail
      go_roundw
      case rel => exact ⟨x + 1, by omega, by go_num, HB3.out, Turn.after HG2.out HT3.out (Nat.le_refl _)⟩
      case measure => simp [intOf]; omega
    · obtain rfl : x = n := by omega
      have HB2 := Lib.hid hb
      have HG2 := Lib.hid hg
      clear hb hg
      go_wp2
      go_ret
      have h2 := HB2.out
      rw [← HL.out, headC_all] at h2
      exact ⟨g, mp, A', c', rfl, BufG.wide h2, HG2.out⟩
end Go.Proofs.Ytabkgdichlebmaa
