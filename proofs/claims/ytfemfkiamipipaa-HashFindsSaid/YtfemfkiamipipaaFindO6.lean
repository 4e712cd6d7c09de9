/-
  Layer 6: the program's own Find.
-/
import Derived.Test.YtfemfkiamipipaaTabO6
import Derived.Test.YtfemfkiamipipaaQuietR6
import Derived.Test.YtfemfkiamipipaaFinds6
namespace Go.Proofs.Ytfemfkiamipipaa
open Go.ChangeShapes Go.WideShapes Go.ChangeAt Go.RowKit Go.Shelf
set_option linter.unusedVariables false
attribute [local go_sem] Oper.semAt_some

set_option maxRecDepth 100000 in
set_option maxHeartbeats 4000000 in
theorem ownFind_any (F : Nat → Prop) (q : Addr) (l : List Lab) (ak an : Int) (as' : ByteArray) (w : World) (h : OTab w F q l) (ha : okL ⟨ak, an, as'⟩) :
    Calls Try.prog 13 #[.pointer (some q), .agg #[.int .u8 ak, .int .i64 an, .string as']] w (ToldG (findV (numOf l ⟨ak, an, as'⟩)) w) := by
  obtain ⟨b, g, A, c, Z, rfl, ⟨hb, ho, hz, hZ⟩, hgood, hoks, _, _, _⟩ := h
  obtain ⟨R, hR⟩ : ∃ R, R = roomE l.length := ⟨_, rfl⟩
  rw [← hR] at hb hZ
  have hR0 : 8 ≤ R := by rw [hR]; exact room_least _
  have hR1 : R ≤ 20000 := by have := room_small l.length; have := hgood.2; omega
  have HRL := Lib.hid (show l.length < R by rw [hR]; exact room_more _)
  clear hR
  obtain ⟨w4, hw4⟩ : ∃ w4, w4 = (((w.alloc (.cells #[.pointer (some ⟨b, 0, none⟩)] 25)).alloc (.cells #[.int .u8 ak, .int .i64 an, .string as'] 38)).alloc (.cells #[.int .i64 0] 3)).alloc (.cells #[.bool false] 4) := ⟨_, rfl⟩
  have HW4 := Lib.hid hw4
  have HG4 := Lib.hid (show w.grownBy w4 none by rw [hw4]; exact grown_alloc (grown_alloc (grown_alloc (grown_alloc (grown_refl _ _) _) _) _) _)
  have e1 : (w.alloc (.cells #[.pointer (some ⟨b, 0, none⟩)] 25)).heap.size = w.heap.size + 1 := by simp
  have e2 : ((w.alloc (.cells #[.pointer (some ⟨b, 0, none⟩)] 25)).alloc (.cells #[.int .u8 ak, .int .i64 an, .string as'] 38)).heap.size = w.heap.size + 1 + 1 := by simp
  have e3 : (((w.alloc (.cells #[.pointer (some ⟨b, 0, none⟩)] 25)).alloc (.cells #[.int .u8 ak, .int .i64 an, .string as'] 38)).alloc (.cells #[.int .i64 0] 3)).heap.size = w.heap.size + 1 + 1 + 1 := by simp
  have HB0 := Lib.hid (show Box w4 w.heap.size 25 #[.pointer (some ⟨b, 0, none⟩)] by rw [hw4]; exact (((Box.fresh w _ _).alloc _).alloc _).alloc _)
  have HB1 := Lib.hid (show Box w4 (w.heap.size + 1) 38 #[.int .u8 ak, .int .i64 an, .string as'] by rw [hw4, ← e1]; exact ((Box.fresh _ _ _).alloc _).alloc _)
  have HB2 := Lib.hid (show Box w4 (w.heap.size + 1 + 1) 3 #[.int .i64 0] by rw [hw4, ← e2]; exact (Box.fresh _ _ _).alloc _)
  have HB3 := Lib.hid (show Box w4 (w.heap.size + 1 + 1 + 1) 4 #[.bool false] by rw [hw4, ← e3]; exact Box.fresh _ _ _)
  have HSZ := Lib.hid (show w4.heap.size = w.heap.size + 1 + 1 + 1 + 1 by rw [hw4]; simp)
  have HM := Lib.hid (made_yes b _ _ w4 (hb.grown HG4.out (by simp)))
  have HRD := Lib.hid (fun w' => ownRoundF_any b ak an as' w')
  have x0 : w4.cell? ⟨w.heap.size, 0, none⟩ = _ := HB0.out.get 0
  rw [hw4] at x0
  clear hw4 e1 e2 e3
  have hf1 : Fence.wide.fn 26 := trivial
  have hf2 : Fence.wide.fn 27 := trivial
  refine (callsIn_wide (n := 9)).1 ?_
  refine callsIn_of_wp_marks Try.func13 rfl trivial ?_ rfl
  simp only [Try.ntmps13, List.size_toArray, List.length_cons, List.length_nil, Nat.reduceAdd, Nat.reduceSub, Array.replicate_succ, Array.replicate_zero, List.push_toArray, List.append_toArray, List.nil_append, List.cons_append]
  gi_wp2_with (first
    | (gi_at_call 26; rw [← HW4.out]; refine (callsIn_wide.2 HM.out).mono ?_; rintro e w5 ⟨rfl, hg⟩; have HG5 := Lib.hid hg; clear hg x0; have b0 := (HB0.out.grown HG5.out (by simp)).get 0; have x0 := (HB1.out.grown HG5.out (by simp)).get 0; have x1 := (HB1.out.grown HG5.out (by simp)).get 1; have x2 := (HB1.out.grown HG5.out (by simp)).get 2)
    | (gi_at_call 27; refine (callsIn_wide.2 (HRD.out _)).mono ?_; rintro e w6 ⟨rfl, rfl⟩))
  obtain ⟨w6, hw6⟩ : ∃ w6, w6 = (w5.alloc (.cells #[.pointer (some ⟨b, 0, none⟩)] 25)).alloc (.cells #[.int .u8 ak, .int .i64 an, .string as'] 38) := ⟨_, rfl⟩
  have HG6 := Lib.hid (show w4.grownBy w6 none by rw [hw6]; exact grown_alloc (grown_alloc HG5.out _) _)
  have HBT := Lib.hid (show Box w6 w5.heap.size 25 #[.pointer (some ⟨b, 0, none⟩)] by rw [hw6]; exact (Box.fresh w5 _ _).alloc _)
  have HBA := Lib.hid (show Box w6 (w5.heap.size + 1) 38 #[.int .u8 ak, .int .i64 an, .string as'] by
    rw [hw6]
    have := Box.fresh (w5.alloc (.cells #[.pointer (some ⟨b, 0, none⟩)] 25)) 38 #[.int .u8 ak, .int .i64 an, .string as']
    rw [show (w5.alloc (.cells #[.pointer (some ⟨b, 0, none⟩)] 25)).heap.size = w5.heap.size + 1 by simp] at this
    exact this)
  rw [← hw6]
  clear hw6 b0 x0 x1 x2
  have HGW := Lib.hid (grown_join HG4.out HG6.out (.inr (by simp)))
  refine wpIn_rangeFunc_ownF rfl (by omega) (gf := 36) (lb := #[.pointer (some ⟨w5.heap.size, 0, none⟩), .pointer (some ⟨w5.heap.size + 1, 0, none⟩)]) rfl trivial (enters_of Try.func36 (by kernel_rfl) rfl)
    (ownRound_stops 8 (by omega) w5.heap.size (w5.heap.size + 1) b R _ _ g ak an as' ha (by omega) hR1 w6 HBT.out HBA.out (hb.grown HGW.out (by simp))) (fun h1 h2 => keepT_t h1 h2) (fun _ _ _ _ _ _ _ _ => trivial) (Below.refl _ _) (fun _ => rfl)
    (fun pre W => (∀ x ∈ pre, ∃ i, tabE R (hsOf l) l.length x.val = i + 1 ∧ l.getD i noLab ≠ ⟨ak, an, as'⟩) ∧ w6.grownBy W none)
    (fun c pre W => ∃ (pre' : List (Fin R)) (x : Fin R), pre = pre' ++ [x] ∧ (∀ y ∈ pre', ∃ i, tabE R (hsOf l) l.length y.val = i + 1 ∧ l.getD i noLab ≠ ⟨ak, an, as'⟩) ∧
      ((c = .exit 0 ∧ tabE R (hsOf l) l.length x.val = 0 ∧ w6.grownBy W none) ∨ (c = .ret ∧ ∃ i, tabE R (hsOf l) l.length x.val = i + 1 ∧ l.getD i noLab = ⟨ak, an, as'⟩ ∧
        Box W (w.heap.size + 1 + 1) 3 #[.int .i64 (i : Nat)] ∧ Box W (w.heap.size + 1 + 1 + 1) 4 #[.bool true] ∧ w.grownBy W none)))
    (fun s A' B' row hs hg hr => ⟨hs.1, grown_from hs.2 hg (Nat.le_refl _) hr⟩)
    (fun c s A' B' row hs hg hr => by
      obtain ⟨pre', x, h2, h3, ⟨h4, h5, h6⟩ | ⟨h4, i, h5, h6, h7, h8, h9⟩⟩ := hs
      · exact ⟨pre', x, h2, h3, .inl ⟨h4, h5, grown_from h6 hg (Nat.le_refl _) hr⟩⟩
      · exact ⟨pre', x, h2, h3, .inr ⟨h4, i, h5, h6, box_from h7 hg hr, box_from h8 hg hr, grown_from h9 hg HGW.out.size hr⟩⟩)
    ⟨fun x hx => absurd hx (by simp), grown_refl _ _⟩
    (fun x => { tmps := #[.pointer (some ⟨b, 0, none⟩), .agg #[.int .u8 ak, .int .i64 an, .string as'], .pointer (some ⟨w.heap.size, 0, none⟩), .pointer (some ⟨w.heap.size + 1, 0, none⟩), .pointer (some ⟨w.heap.size + 1 + 1, 0, none⟩), .pointer (some ⟨w.heap.size + 1 + 1 + 1, 0, none⟩), .int .i64 (x.val : Int), undef, .pointer (some ⟨b, 0, none⟩), .bool true, .bool false, .pointer (some ⟨b, 0, none⟩), .agg #[.int .u8 ak, .int .i64 an, .string as'], .func (.func 36) #[] #[.pointer (some ⟨w5.heap.size, 0, none⟩), .pointer (some ⟨w5.heap.size + 1, 0, none⟩)], .int .i64 (x.val : Int), undef, undef, undef, undef, undef, undef, undef, undef, undef, undef, undef, undef, undef, undef, undef, undef, undef, undef, undef, undef], defers := [] }) ?assign ?body ?done ?stop
  case assign =>
    intro l x W K hK
    gi_wp2
    exact hK
  case body =>
    rintro l2 pre x W ⟨hp, hg⟩ _
    have HP := Lib.hid hp
    have HG := Lib.hid hg
    have HGX := Lib.hid (grown_join HGW.out hg (.inr (by simp)))
    have HG4X := Lib.hid (grown_join HG6.out hg (.inr (by simp)))
    have HTW := Lib.hid (hb.grown HGX.out (by simp))
    have HZW := Lib.hid (hz.grown HGX.out (by simp))
    have HOW := Lib.hid (ho.grow HGX.out)
    have HB0W := Lib.hid (HB0.out.grown HG4X.out (by simp))
    have HB1W := Lib.hid (HB1.out.grown HG4X.out (by simp))
    have HB2W := Lib.hid (HB2.out.grown HG4X.out (by simp))
    have HB3W := Lib.hid (HB3.out.grown HG4X.out (by simp))
    clear hp hg
    have t1 := HTW.out.get 1
    have t2 := HTW.out.get 2
    have b0 := HB0W.out.get 0
    have z0 := HZW.out.get x.val
    have xl : x.val < R := x.isLt
    rw [hZ x.val xl] at z0
    by_cases hT : tabE R (hsOf l) l.length x.val = 0
    · have HTT := Lib.hid hT
      rw [hT] at z0
      clear hT
      gi_wp2
      exact ⟨KeepsOthers.refl W, pre, x, rfl, HP.out, .inl ⟨rfl, HTT.out, HG.out⟩⟩
    · obtain ⟨i, hi, hie⟩ := slot_who (l := l) (hs := hsOf l) (R := R) rfl hT
      have HIE := Lib.hid hie
      rw [hie] at z0
      have i2 := HB2W.out.get 0
      have i3 := HB3W.out.get 0
      have f2 := HB2W.out.free 0
      have f3 := HB3W.out.free 0
      have y0 := HB1W.out.get 0
      have y1 := HB1W.out.get 1
      have y2 := HB1W.out.get 2
      obtain ⟨bb, off, rfl, _, k0, k1, k2⟩ := HOW.out.labs.at_ hi
      generalize hu : l.getD i noLab = u at *
      have HU := Lib.hid hu
      obtain ⟨uk, un, us⟩ := u
      have hq := eql_lab ⟨uk, un, us⟩ ⟨ak, an, as'⟩
      have s1 : ((i : Int) + 1 - 1) = (i : Int) := by omega
      have hn4 : l.length ≤ 4096 := hgood.2
      have s2 : wrap64 (i : Int) = (i : Int) := IntWalk.wrap64_in _ (by omega)
      have s3 : wrap64 ((i : Int) + 1 - 1) = (i : Int) := by rw [s1]; exact s2
      have g1 : (0 : Int) ≤ (i : Int) := Int.natCast_nonneg i
      have g2 : (i : Int) < (l.length : Int) := Int.ofNat_lt.2 hi
      have d1 : decide ((i : Int) < 0) = false := decide_eq_false (Int.not_lt.2 g1)
      dsimp only at k0 k1 k2
      clear hT hie hu
      by_cases he : (⟨uk, un, us⟩ : Lab) = ⟨ak, an, as'⟩
      · rw [show eqlL ⟨uk, un, us⟩ ⟨ak, an, as'⟩ = true from decide_eq_true he] at hq
        have HE := Lib.hid he
        clear he
        dsimp only at hq
        gi_wp2
        refine quiet_round (F := Fence.wide) rfl (by kernel_rfl) (by kernel_rfl) (by kernel_rfl) ?_
        repeat (gi_big_quiet_step (fail))
        refine wpQuietIn_nil ?_
        intro _ hw'
        obtain ⟨nq, hw''⟩ := hw'
        subst hw''
        gi_wp2
        exact ⟨(show KeepsOthers W (W.drewN nq) from ⟨Nat.le_refl _, fun _ _ h _ => h⟩).trans ((KeepsOthers.setCell _ _ _).trans (KeepsOthers.setCell _ _ _)), pre, x, rfl, HP.out, .inr ⟨rfl, i, HIE.out, by rw [HU.out]; exact HE.out, Box.past (Box.put (HB2W.out.drewN nq) 0 _) (by omega) _, Box.put (Box.past (HB3W.out.drewN nq) (by omega) _) 0 _, grown_put (grown_put (grown_drewN HGX.out nq) (.inr (by omega)) _) (.inr (by omega)) _⟩⟩
      · rw [show eqlL ⟨uk, un, us⟩ ⟨ak, an, as'⟩ = false from decide_eq_false he] at hq
        have HE := Lib.hid he
        clear he
        dsimp only at hq
        gi_wp2
        refine quiet_round (F := Fence.wide) rfl (by kernel_rfl) (by kernel_rfl) (by kernel_rfl) ?_
        repeat (gi_big_quiet_step (fail))
        refine wpQuietIn_nil ?_
        intro _ hw'
        obtain ⟨nq, hw''⟩ := hw'
        subst hw''
        gi_wp2
        exact ⟨(show KeepsOthers W (W.drewN nq) from ⟨Nat.le_refl _, fun _ _ h _ => h⟩), trivial, fun y hy => (List.mem_append.1 hy).elim (HP.out y) (fun e => by
          obtain rfl : y = x := by simpa using e
          exact ⟨i, HIE.out, by rw [HU.out]; exact HE.out⟩), grown_drewN HG.out nq⟩
  case done =>
    rintro D ys W hD rfl ⟨hp, hg⟩ hK
    exfalso
    obtain ⟨j, hj, h0⟩ := slot_free (hs := hsOf l) (l := l) (R := R) HRL.out (hashN ⟨ak, an, as'⟩)
    obtain ⟨i, hi, _⟩ := hp _ (slots_mem (by omega) hj)
    rw [h0] at hi
    cases hi
  case stop =>
    rintro D c pre W hD ⟨k, hk, rfl⟩ ⟨pre', x, h2, h3, h4⟩ hK
    cases k with
    | zero => exact absurd h2 (by simp [slotsL])
    | succ k =>
      rw [slots_succ] at h2
      obtain ⟨e1, e2⟩ := List.append_inj' h2 rfl
      subst e1
      injection e2 with e2
      subst e2
      rcases h4 with ⟨rfl, h5, h6⟩ | ⟨rfl, i, h5, h6, h7, h8, h9⟩
      · have HO := Lib.hid (show numOf l ⟨ak, an, as'⟩ = none from find_no (hs := hsOf l) (hf := hashN) (R := R) (x := k) (Nat.le_of_lt HRL.out) (fun i _ => rfl) h5 (fun j hj => h3 _ (slots_mem (by omega) hj)))
        have HG4X := Lib.hid (grown_join HG6.out h6 (.inr (by simp)))
        have HGX := Lib.hid (grown_join HGW.out h6 (.inr (by simp)))
        have HB2W := Lib.hid (HB2.out.grown HG4X.out (by simp))
        have HB3W := Lib.hid (HB3.out.grown HG4X.out (by simp))
        have i2 := HB2W.out.get 0
        have i3 := HB3W.out.get 0
        have f2 := HB2W.out.free 0
        have f3 := HB3W.out.free 0
        have HK := Lib.hid hK
        have HD := Lib.hid hD
        clear h3 h5 h2 hk h6 hK hD
        gi_wp2
        have hK2 := ((KeepsOthers.setCell W ⟨w.heap.size + 1 + 1, 0, none⟩ (.int .i64 0)).trans (KeepsOthers.setCell _ ⟨w.heap.size + 1 + 1 + 1, 0, none⟩ (.bool false))).same D _ HK.out rfl
        refine ⟨by simp, .inl ⟨_, _, rfl, run_takeDeferred hK2, ?_⟩⟩
        have h5 := Box.past (Box.put HB2W.out 0 (.int .i64 0)) (show w.heap.size + 1 + 1 ≠ w.heap.size + 1 + 1 + 1 by omega) (j := 0) (.bool false)
        have h6 := Box.put (Box.past HB3W.out (show w.heap.size + 1 + 1 + 1 ≠ w.heap.size + 1 + 1 by omega) (j := 0) (.int .i64 0)) 0 (.bool false)
        have h7 := grown_put (j := 0) (grown_put (j := 0) HGX.out (.inr (show w.heap.size ≤ w.heap.size + 1 + 1 by omega)) (.int .i64 0)) (.inr (show w.heap.size ≤ w.heap.size + 1 + 1 + 1 by omega)) (.bool false)
        have hc5 := cell_kept (h5.get 0) (grownBy_putObj' _ D (.deferred none)) (fun r e => by cases e; exact ⟨_, hK2, rfl⟩)
        have hc6 := cell_kept (h6.get 0) (grownBy_putObj' _ D (.deferred none)) (fun r e => by cases e; exact ⟨_, hK2, rfl⟩)
        refine ⟨findV none, ?_, by rw [HO.out], grown_join h7 (grownBy_putObj' _ D _) (.inr (fun z e => by injection e with e; subst e; exact Nat.le_trans HGW.out.size HD.out))⟩
        simp [results, Try.results13, go_sem, hc5, hc6, findV]
      · have HO := Lib.hid (show numOf l ⟨ak, an, as'⟩ = some i from by
          obtain ⟨i', h10, h11⟩ := slot_who (l := l) (hs := hsOf l) (R := R) h5 (by omega)
          obtain rfl : i = i' := by omega
          exact find_yes hgood.1 h10 h6)
        gi_wp2
        refine ⟨by simp, .inl ⟨_, _, rfl, run_takeDeferred hK, ?_⟩⟩
        have hc5 := cell_kept (h7.get 0) (grownBy_putObj' _ D (.deferred none)) (fun r e => by cases e; exact ⟨_, hK, rfl⟩)
        have hc6 := cell_kept (h8.get 0) (grownBy_putObj' _ D (.deferred none)) (fun r e => by cases e; exact ⟨_, hK, rfl⟩)
        refine ⟨findV (some i), ?_, by rw [HO.out], grown_join h9 (grownBy_putObj' W D _) (.inr (fun z e => by injection e with e; subst e; exact Nat.le_trans HGW.out.size hD))⟩
        simp [results, Try.results13, go_sem, hc5, hc6, findV]
end Go.Proofs.Ytfemfkiamipipaa
