/-
  Layer 6: the program's own lay: a label's number into its slot.
-/
import Derived.Test.YtfemfkiamipipaaFindO6
import Derived.Test.YtfemfkiamipipaaLast6
namespace Go.Proofs.Ytfemfkiamipipaa
open Go.ChangeShapes Go.WideShapes Go.ChangeAt Go.RowKit Go.Shelf
set_option linter.unusedVariables false
attribute [local go_sem] Oper.semAt_some

theorem tab_put {R : Nat} {hs : Nat → Nat} {n : Nat} {Z : Array Value} (hZ : ∀ x, x < R → Z[x]? = some (.int .i64 (tabE R hs n x : Nat))) {s : Nat} (hs0 : s = slotE R hs n) (hsR : s < R) :
    ∀ x, x < R → (Z.setIfInBounds s (.int .i64 ((n + 1 : Nat) : Int)))[x]? = some (.int .i64 (tabE R hs (n + 1) x : Nat)) := by
  intro x hx
  have hsz : s < Z.size := (Array.getElem?_eq_some_iff.1 (hZ s hsR)).1
  rw [tab_step, ← hs0]
  by_cases e : x = s
  · subst e
    rw [if_pos rfl, Array.getElem?_setIfInBounds_self_of_lt hsz]
  · rw [if_neg e, Array.getElem?_setIfInBounds_ne (Ne.symm e), hZ x hx]
set_option maxRecDepth 100000 in
set_option maxHeartbeats 4000000 in
theorem ownLay_any (b g : Nat) (A : Option Addr) (c R : Nat) (Z : Array Value) (L : List Lab) (nn : Nat) (w : World) (h : TabI w b g A c R Z L nn) (hn : nn < L.length) (hL : L.length ≤ 4096) (hoks : Oks L) (hnR : nn < R) (hR1 : R ≤ 20000) :
    Calls Try.prog 30 #[.pointer (some ⟨b, 0, none⟩), .int .i64 (nn : Int)] w fun e w' => (∃ v, e = .returned v) ∧ (∃ Z', TabI w' b g A c R Z' L (nn + 1)) ∧ w.grownBy w' (some g) := by
  obtain ⟨hb, ho, hz, hZ⟩ := h
  have HO := Lib.hid ho
  have HZZ := Lib.hid hZ
  have HAP := Lib.hid (own_apart ho.2 hz (by decide))
  have HBG := Lib.hid (Box.apart hb hz (by decide))
  obtain ⟨w4, hw4⟩ : ∃ w4, w4 = (w.alloc (.cells #[.pointer (some ⟨b, 0, none⟩)] 25)).alloc (.cells #[.int .i64 (nn : Int)] 3) := ⟨_, rfl⟩
  have HW4 := Lib.hid hw4
  have HG4 := Lib.hid (show w.grownBy w4 none by rw [hw4]; exact grown_alloc (grown_alloc (grown_refl _ _) _) _)
  have e1 : (w.alloc (.cells #[.pointer (some ⟨b, 0, none⟩)] 25)).heap.size = w.heap.size + 1 := by simp
  have HB0 := Lib.hid (show Box w4 w.heap.size 25 #[.pointer (some ⟨b, 0, none⟩)] by rw [hw4]; exact (Box.fresh w _ _).alloc _)
  have HB1 := Lib.hid (show Box w4 (w.heap.size + 1) 3 #[.int .i64 (nn : Int)] by rw [hw4, ← e1]; exact Box.fresh _ _ _)
  have HT := Lib.hid (hb.grown HG4.out (by simp))
  obtain ⟨bb, off, rfl, _, k0, k1, k2⟩ := (ho.grow HG4.out).labs.at_ hn
  have HOK := Lib.hid (hoks nn hn)
  have HHS := Lib.hid (show hsOf L nn = hashN (L.getD nn noLab) from rfl)
  generalize L.getD nn noLab = u at *
  obtain ⟨ak, an, as'⟩ := u
  have HRD := Lib.hid (fun w' => ownRoundF_any b ak an as' w')
  have g1 : (0 : Int) ≤ (nn : Int) := Int.natCast_nonneg nn
  have g2 : (nn : Int) < (L.length : Int) := Int.ofNat_lt.2 hn
  dsimp only at k0 k1 k2
  clear hw4 e1 ho hZ
  have hf2 : Fence.wide.fn 27 := trivial
  refine (callsIn_wide (n := 9)).1 ?_
  refine callsIn_of_wp_marks Try.func30 rfl trivial ?_ rfl
  simp only [Try.ntmps30, List.size_toArray, List.length_cons, List.length_nil, Nat.reduceAdd, Nat.reduceSub, Array.replicate_succ, Array.replicate_zero, List.push_toArray, List.append_toArray, List.nil_append, List.cons_append]
  gi_wp2
  rw [← HW4.out]
  have t1 := HT.out.get 1
  have b0 := HB0.out.get 0
  have n0 := HB1.out.get 0
  refine region_last rfl (by kernel_rfl) (by kernel_rfl) (by kernel_rfl) ?_
  dsimp only [aheadL, lastL]
  repeat (gi_big_quiet_step (fail))
  refine wpQuietIn_nil ?_
  rintro _ ⟨nq, rfl⟩
  gi_wp2_with (gi_at_call 27; refine (callsIn_wide.2 (HRD.out _)).mono ?_; rintro e w6 ⟨rfl, rfl⟩)
  obtain ⟨w6, hw6⟩ : ∃ w6, w6 = ((w4.drewN nq).alloc (.cells #[.pointer (some ⟨b, 0, none⟩)] 25)).alloc (.cells #[.int .u8 ak, .int .i64 an, .string as'] 38) := ⟨_, rfl⟩
  have HG6 := Lib.hid (show w4.grownBy w6 none by rw [hw6]; exact grown_alloc (grown_alloc (grown_drewN (grown_refl _ _) _) _) _)
  have HBT := Lib.hid (show Box w6 w4.heap.size 25 #[.pointer (some ⟨b, 0, none⟩)] by rw [hw6]; exact (Box.fresh (w4.drewN nq) _ _).alloc _)
  have HBA := Lib.hid (show Box w6 (w4.heap.size + 1) 38 #[.int .u8 ak, .int .i64 an, .string as'] by
    rw [hw6]
    have := Box.fresh ((w4.drewN nq).alloc (.cells #[.pointer (some ⟨b, 0, none⟩)] 25)) 38 #[.int .u8 ak, .int .i64 an, .string as']
    rw [show ((w4.drewN nq).alloc (.cells #[.pointer (some ⟨b, 0, none⟩)] 25)).heap.size = w4.heap.size + 1 by simp] at this
    exact this)
  rw [← hw6]
  clear hw6 t1 b0 n0 k0 k1 k2
  have HGW := Lib.hid (grown_join HG4.out HG6.out (.inr (by simp)))
  have HFR := Lib.hid (tab_free (hs := hsOf L) hnR (hashN ⟨ak, an, as'⟩))
  refine wpIn_rangeFunc_ownF rfl (by omega) (gf := 36) (lb := #[.pointer (some ⟨w4.heap.size, 0, none⟩), .pointer (some ⟨w4.heap.size + 1, 0, none⟩)]) rfl trivial (enters_of Try.func36 (by kernel_rfl) rfl)
    (ownRound_stops 8 (by omega) w4.heap.size (w4.heap.size + 1) b R _ _ g ak an as' HOK.out (by omega) hR1 w6 HBT.out HBA.out (hb.grown HGW.out (by simp))) (fun h1 h2 => keepT_t h1 h2) (fun _ _ _ _ _ _ _ _ => trivial) (Below.refl _ _) (fun _ => rfl)
    (fun pre W => (∀ x ∈ pre, tabE R (hsOf L) nn x.val ≠ 0) ∧ w6.grownBy W none)
    (fun c pre W => c = .ret ∧ ∃ (pre' : List (Fin R)) (x : Fin R), pre = pre' ++ [x] ∧ (∀ y ∈ pre', tabE R (hsOf L) nn y.val ≠ 0) ∧ tabE R (hsOf L) nn x.val = 0 ∧ Box W g 3 (Z.setIfInBounds x.val (.int .i64 ((nn + 1 : Nat) : Int))) ∧ w.grownBy W (some g))
    (fun s A' B' row hs hg hr => ⟨hs.1, grown_from hs.2 hg (Nat.le_refl _) hr⟩)
    (fun c s A' B' row hs hg hr => by
      obtain ⟨h1, pre', x, h2, h3, h4, h5, h6⟩ := hs
      exact ⟨h1, pre', x, h2, h3, h4, box_from h5 hg hr, grown_join h6 hg (.inr fun z e => Nat.le_trans HGW.out.size (hr z e).1)⟩)
    ⟨fun x hx => absurd hx (by simp), grown_refl _ _⟩
    (fun x => { tmps := #[.pointer (some ⟨b, 0, none⟩), .int .i64 (nn : Int), .pointer (some ⟨w.heap.size, 0, none⟩), .pointer (some ⟨w.heap.size + 1, 0, none⟩), .int .i64 (x.val : Int), .pointer (some ⟨b, 0, none⟩), .pointer (some ⟨b, 0, none⟩), .pointer (some ⟨b, 0, none⟩), .pointer (some ⟨b, 1, none⟩), .slice (some ⟨bb, off, none⟩) L.length c, .int .i64 (nn : Int), .pointer (some ⟨bb, off + nn * 3, none⟩), .agg #[.int .u8 ak, .int .i64 an, .string as'], .func (.func 36) #[] #[.pointer (some ⟨w4.heap.size, 0, none⟩), .pointer (some ⟨w4.heap.size + 1, 0, none⟩)], .int .i64 (x.val : Int), undef, undef, undef, undef, undef, undef, undef, undef, undef, undef, undef, undef, undef, undef, undef, undef], defers := [] }) ?assign ?body ?done ?stop
  case assign =>
    intro l x W K hK
    gi_wp2
    exact hK
  case body =>
    rintro l2 pre x W ⟨hp, hg⟩ _
    have HP := Lib.hid hp
    have HG := Lib.hid hg
    have HGX := Lib.hid (grown_join HGW.out hg (.inr (by simp)))
    have HG4X := Lib.hid (grown_join HG6.out hg (.inr (by simp)))
    have HTW := Lib.hid (hb.grown HGX.out (by simp))
    have HZW := Lib.hid (hz.grown HGX.out (by simp))
    have HB0W := Lib.hid (HB0.out.grown HG4X.out (by simp))
    have HB1W := Lib.hid (HB1.out.grown HG4X.out (by simp))
    clear hp hg
    have t2 := HTW.out.get 2
    have b0 := HB0W.out.get 0
    have n0 := HB1W.out.get 0
    have z0 := HZW.out.get x.val
    have zf := HZW.out.free x.val
    have xl : x.val < R := x.isLt
    rw [HZZ.out x.val xl] at z0
    by_cases hT : tabE R (hsOf L) nn x.val = 0
    · have HTT := Lib.hid hT
      rw [hT] at z0
      clear hT
      have s1 : wrap64 ((nn : Int) + 1) = ((nn + 1 : Nat) : Int) := IntWalk.wrap64_in _ (by omega)
      have s2 : IntKind.i64.wrap ((nn : Int) + 1) = ((nn + 1 : Nat) : Int) := IntWalk.i64_in _ (by omega)
      gi_wp2
      refine region_last_round (F := Fence.wide) rfl (by kernel_rfl) (by kernel_rfl) (by kernel_rfl) (by kernel_rfl) ?_
      dsimp only [aheadL, lastL]
      repeat (gi_big_quiet_step (fail))
      refine wpQuietIn_nil ?_
      rintro _ ⟨mq, rfl⟩
      gi_wp2
      exact ⟨(show KeepsOthers W (W.drewN mq) from ⟨Nat.le_refl _, fun _ _ h _ => h⟩).trans (KeepsOthers.setCell _ _ _), rfl, pre, x, rfl, HP.out, HTT.out, Box.put (HZW.out.drewN mq) x.val _, grown_put (grown_drewN (grown_more HGX.out _) mq) (.inl rfl) _⟩
    · have HTT := Lib.hid hT
      have d1 : ((tabE R (hsOf L) nn x.val : Int) == 0) = false := by simp; exact hT
      clear hT
      gi_wp2
      exact ⟨KeepsOthers.refl W, trivial, fun y hy => (List.mem_append.1 hy).elim (HP.out y) (fun e => by
        obtain rfl : y = x := by simpa using e
        exact HTT.out), HG.out⟩
  case done =>
    rintro D ys W hD rfl ⟨hp, hg⟩ hK
    exfalso
    obtain ⟨j, hj, h0, _⟩ := HFR.out
    exact hp _ (slots_mem (by omega) hj) h0
  case stop =>
    rintro D c pre W hD ⟨k, hk, rfl⟩ ⟨rfl, pre', x, h2, h3, h4, h5, h6⟩ hK
    cases k with
    | zero => exact absurd h2 (by simp [slotsL])
    | succ k =>
      rw [slots_succ] at h2
      obtain ⟨e1, e2⟩ := List.append_inj' h2 rfl
      subst e1
      injection e2 with e2
      subst e2
      have HS := Lib.hid (show (hashN ⟨ak, an, as'⟩ + k) % R = slotE R (hsOf L) nn from by
        unfold slotE jE
        rw [HHS.out, freeJ_is (R := R) (T := tabE R (hsOf L) nn) (j := k) (by omega) h4 (fun i hi => h3 _ (slots_mem (by omega) hi))])
      gi_wp2
      refine ⟨by simp, .inl ⟨_, _, rfl, run_takeDeferred hK, ?_⟩⟩
      have hgr := grownBy_putObj' W D (.deferred none)
      have hall := grown_join h6 hgr (.inr (fun z e => by injection e with e; subst e; exact Nat.le_trans HGW.out.size hD))
      have hgx : some b ≠ some g := fun e => HBG.out (by injection e)
      refine ⟨_, results_none rfl _ _ _, ⟨_, rfl⟩, ⟨_, hb.grown hall hgx, ⟨rfl, ?_⟩, box_from (D := D) h5 hgr (fun r e => by cases e; exact ⟨Nat.le_refl _, _, hK, rfl⟩), tab_put HZZ.out HS.out (Nat.mod_lt _ (by omega))⟩, hall⟩
      exact (Spare.of_row (F := fun z => z = g) hall rfl).own HO.out.2 (fun z hz2 hzg => HAP.out (by rw [hz2, hzg]))
end Go.Proofs.Ytfemfkiamipipaa
