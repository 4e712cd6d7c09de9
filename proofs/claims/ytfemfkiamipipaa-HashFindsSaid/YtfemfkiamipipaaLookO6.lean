/-
  Layer 6: the program's own looked, Longest.
-/
import Derived.Test.YtfemfkiamipipaaLayO6
namespace Go.Proofs.Ytfemfkiamipipaa
open Go.ChangeShapes Go.WideShapes Go.ChangeAt Go.RowKit Go.Shelf
set_option linter.unusedVariables false
attribute [local go_sem] Oper.semAt_some

theorem mod_same {R h j k : Nat} (hj : j < R) (hk : k < R) (hkj : k ≤ j) (e : (h + j) % R = (h + k) % R) : k = j := by
  have h1 := Nat.div_add_mod (h + j) R
  have h2 := Nat.div_add_mod (h + k) R
  rw [e] at h1
  generalize (h + j) / R = a at *
  generalize (h + k) / R = c at *
  generalize (h + k) % R = r at *
  rcases Nat.lt_or_ge c a with hca | hca
  · have := Nat.mul_le_mul_left R (show c + 1 ≤ a from hca)
    rw [Nat.mul_add, Nat.mul_one] at this
    omega
  · have := Nat.mul_le_mul_left R hca
    omega
theorem mod_inj {R h j k : Nat} (hj : j < R) (hk : k < R) (e : (h + j) % R = (h + k) % R) : k = j := by
  rcases Nat.le_total k j with hkj | hkj
  · exact mod_same hj hk hkj e
  · exact (mod_same hk hj hkj e.symm).symm
theorem look_is {R N nn k : Nat} {hs : Nat → Nat} (hn : nn < N) (hN : N ≤ R) (hk : k < R) (h : tabE R hs N ((hs nn + k) % R) = nn + 1) : k = jE R hs nn := by
  obtain ⟨i, _, h1, h2⟩ := tab_who N _ (by rw [h]; omega)
  obtain rfl : i = nn := by omega
  unfold slotE at h2
  exact (mod_inj (jE_spec (hs := hs) (show i < R by omega)).1 hk h2.symm)
set_option maxRecDepth 100000 in
set_option maxHeartbeats 4000000 in
theorem ownLooked_any (b g : Nat) (A : Option Addr) (c R : Nat) (Z : Array Value) (L : List Lab) (nn : Nat) (w : World) (h : TabI w b g A c R Z L L.length) (hn : nn < L.length) (hL : L.length ≤ 4096) (hoks : Oks L) (hnR : L.length < R) (hR1 : R ≤ 20000) :
    Calls Try.prog 33 #[.pointer (some ⟨b, 0, none⟩), .int .i64 (nn : Int)] w (ToldG (.int .i64 ((jE R (hsOf L) nn + 1 : Nat) : Int)) w) := by
  obtain ⟨hb, ho, hz, hZ⟩ := h
  have HZZ := Lib.hid hZ
  obtain ⟨w5, hw5⟩ : ∃ w5, w5 = ((w.alloc (.cells #[.pointer (some ⟨b, 0, none⟩)] 25)).alloc (.cells #[.int .i64 (nn : Int)] 3)).alloc (.cells #[.int .i64 0] 3) := ⟨_, rfl⟩
  have HG5 := Lib.hid (show w.grownBy w5 none by rw [hw5]; exact grown_alloc (grown_alloc (grown_alloc (grown_refl _ _) _) _) _)
  have e1 : (w.alloc (.cells #[.pointer (some ⟨b, 0, none⟩)] 25)).heap.size = w.heap.size + 1 := by simp
  have e2 : ((w.alloc (.cells #[.pointer (some ⟨b, 0, none⟩)] 25)).alloc (.cells #[.int .i64 (nn : Int)] 3)).heap.size = w.heap.size + 1 + 1 := by simp
  have HC0 := Lib.hid (show Box w5 w.heap.size 25 #[.pointer (some ⟨b, 0, none⟩)] by rw [hw5]; exact ((Box.fresh w _ _).alloc _).alloc _)
  have HC1 := Lib.hid (show Box w5 (w.heap.size + 1) 3 #[.int .i64 (nn : Int)] by rw [hw5, ← e1]; exact (Box.fresh _ _ _).alloc _)
  have HC2 := Lib.hid (show Box w5 (w.heap.size + 1 + 1) 3 #[.int .i64 0] by rw [hw5, ← e2]; exact Box.fresh _ _ _)
  have HSZ := Lib.hid (show w5.heap.size = w.heap.size + 1 + 1 + 1 by rw [hw5]; simp)
  have HW5 := Lib.hid hw5
  have HT := Lib.hid (hb.grown HG5.out (by simp))
  obtain ⟨bb, off, rfl, _, k0, k1, k2⟩ := (ho.grow HG5.out).labs.at_ hn
  have HOK := Lib.hid (hoks nn hn)
  have HHS := Lib.hid (show hsOf L nn = hashN (L.getD nn noLab) from rfl)
  generalize L.getD nn noLab = u at *
  obtain ⟨ak, an, as'⟩ := u
  have HRD := Lib.hid (fun w' => ownRoundF_any b ak an as' w')
  have g1 : (0 : Int) ≤ (nn : Int) := Int.natCast_nonneg nn
  have g2 : (nn : Int) < (L.length : Int) := Int.ofNat_lt.2 hn
  dsimp only at k0 k1 k2
  clear hw5 e1 e2 ho hZ
  have hf2 : Fence.wide.fn 27 := trivial
  refine (callsIn_wide (n := 9)).1 ?_
  refine callsIn_of_wp_marks Try.func33 rfl trivial ?_ rfl
  simp only [Try.ntmps33, List.size_toArray, List.length_cons, List.length_nil, Nat.reduceAdd, Nat.reduceSub, Array.replicate_succ, Array.replicate_zero, List.push_toArray, List.append_toArray, List.nil_append, List.cons_append]
  gi_wp2
  rw [← HW5.out]
  have t1 := HT.out.get 1
  have b0 := HC0.out.get 0
  have n0 := HC1.out.get 0
  refine region_last rfl (by kernel_rfl) (by kernel_rfl) (by kernel_rfl) ?_
  dsimp only [aheadL, lastL]
  repeat (gi_big_quiet_step (fail))
  refine wpQuietIn_nil ?_
  rintro _ ⟨nq, rfl⟩
  gi_wp2_with (gi_at_call 27; refine (callsIn_wide.2 (HRD.out _)).mono ?_; rintro e w6 ⟨rfl, rfl⟩)
  obtain ⟨w6, hw6⟩ : ∃ w6, w6 = ((w5.drewN nq).alloc (.cells #[.pointer (some ⟨b, 0, none⟩)] 25)).alloc (.cells #[.int .u8 ak, .int .i64 an, .string as'] 38) := ⟨_, rfl⟩
  have HG6 := Lib.hid (show w5.grownBy w6 none by rw [hw6]; exact grown_alloc (grown_alloc (grown_drewN (grown_refl _ _) _) _) _)
  have HBT := Lib.hid (show Box w6 w5.heap.size 25 #[.pointer (some ⟨b, 0, none⟩)] by rw [hw6]; exact (Box.fresh (w5.drewN nq) _ _).alloc _)
  have HBA := Lib.hid (show Box w6 (w5.heap.size + 1) 38 #[.int .u8 ak, .int .i64 an, .string as'] by
    rw [hw6]
    have := Box.fresh ((w5.drewN nq).alloc (.cells #[.pointer (some ⟨b, 0, none⟩)] 25)) 38 #[.int .u8 ak, .int .i64 an, .string as']
    rw [show ((w5.drewN nq).alloc (.cells #[.pointer (some ⟨b, 0, none⟩)] 25)).heap.size = w5.heap.size + 1 by simp] at this
    exact this)
  rw [← hw6]
  clear hw6 t1 b0 n0 k0 k1 k2
  have HGW := Lib.hid (grown_join HG5.out HG6.out (.inr (by simp)))
  have HNB := Lib.hid (show ∀ z, some (w.heap.size + 1 + 1) = some z → w.heap.size ≤ z from fun z e => by injection e with e; omega)
  have HJ := Lib.hid (jE_spec (hs := hsOf L) (R := R) (show nn < R by omega)).1
  have HAT := Lib.hid (tab_at (hs := hsOf L) hn (Nat.le_of_lt hnR))
  unfold slotE at HAT
  rw [HHS.out] at HAT
  refine wpIn_rangeFunc_ownF rfl (by omega) (gf := 36) (lb := #[.pointer (some ⟨w5.heap.size, 0, none⟩), .pointer (some ⟨w5.heap.size + 1, 0, none⟩)]) rfl trivial (enters_of Try.func36 (by kernel_rfl) rfl)
    (ownRound_stops 8 (by omega) w5.heap.size (w5.heap.size + 1) b R _ _ g ak an as' HOK.out (by omega) hR1 w6 HBT.out HBA.out (hb.grown HGW.out (by simp))) (fun h1 h2 => keepT_t h1 h2) (fun _ _ _ _ _ _ _ _ => trivial) (Below.refl _ _) (fun _ => rfl)
    (fun pre W => (∀ x ∈ pre, tabE R (hsOf L) L.length x.val ≠ nn + 1) ∧ Box W (w.heap.size + 1 + 1) 3 #[.int .i64 (pre.length : Nat)] ∧ w6.grownBy W (some (w.heap.size + 1 + 1)))
    (fun c pre W => c = .exit 0 ∧ ∃ (pre' : List (Fin R)) (x : Fin R), pre = pre' ++ [x] ∧ tabE R (hsOf L) L.length x.val = nn + 1 ∧ Box W (w.heap.size + 1 + 1) 3 #[.int .i64 (pre.length : Nat)] ∧ w6.grownBy W (some (w.heap.size + 1 + 1)))
    (fun s A' B' row hs hg hr => ⟨hs.1, box_from hs.2.1 hg hr, grown_join hs.2.2 hg (.inr fun z e => (hr z e).1)⟩)
    (fun c s A' B' row hs hg hr => by
      obtain ⟨h1, pre', x, h2, h3, h4, h5⟩ := hs
      exact ⟨h1, pre', x, h2, h3, box_from h4 hg hr, grown_join h5 hg (.inr fun z e => (hr z e).1)⟩)
    ⟨fun x hx => absurd hx (by simp), HC2.out.grown HG6.out (by simp), grown_refl _ _⟩
    (fun x => { tmps := #[.pointer (some ⟨b, 0, none⟩), .int .i64 (nn : Int), .pointer (some ⟨w.heap.size, 0, none⟩), .pointer (some ⟨w.heap.size + 1, 0, none⟩), .int .i64 0, .pointer (some ⟨w.heap.size + 1 + 1, 0, none⟩), .int .i64 (x.val : Int), .pointer (some ⟨b, 0, none⟩), .pointer (some ⟨b, 0, none⟩), .pointer (some ⟨b, 0, none⟩), .pointer (some ⟨b, 1, none⟩), .slice (some ⟨bb, off, none⟩) L.length c, .int .i64 (nn : Int), .pointer (some ⟨bb, off + nn * 3, none⟩), .agg #[.int .u8 ak, .int .i64 an, .string as'], .func (.func 36) #[] #[.pointer (some ⟨w5.heap.size, 0, none⟩), .pointer (some ⟨w5.heap.size + 1, 0, none⟩)], .int .i64 (x.val : Int), undef, undef, undef, undef, undef, undef, undef, undef, undef, undef, undef, undef, undef], defers := [] }) ?assign ?body ?done ?stop
  case assign =>
    intro l x W K hK
    gi_wp2
    exact hK
  case body =>
    rintro l2 pre x W ⟨hp, hbx, hg⟩ hpl
    have HP := Lib.hid hp
    have HG := Lib.hid hg
    have HBX := Lib.hid hbx
    have HGX := Lib.hid (grown_join HGW.out hg (.inr HNB.out))
    have hne0 : some w.heap.size ≠ some (w.heap.size + 1 + 1) := fun e => by injection e with e; omega
    have hne1 : some (w.heap.size + 1) ≠ some (w.heap.size + 1 + 1) := fun e => by injection e with e; omega
    have HTW := Lib.hid (hb.grown HGX.out (by simp))
    have HZW := Lib.hid (hz.grown HGX.out (by simp))
    have HB0W := Lib.hid ((HC0.out.grown HG6.out (by simp)).grown hg hne0)
    have HB1W := Lib.hid ((HC1.out.grown HG6.out (by simp)).grown hg hne1)
    clear hp hg hbx hne0 hne1
    have b0 := HB0W.out.get 0
    have n0 := HB1W.out.get 0
    have c0 := HBX.out.get 0
    have cf := HBX.out.free 0
    have xl : x.val < R := x.isLt
    have p1 : pre.length < R := hpl
    have s1 : IntKind.i64.wrap ((pre.length : Int) + 1) = ((pre.length + 1 : Nat) : Int) := IntWalk.i64_in _ (by omega)
    have s2 : wrap64 ((pre.length : Int) + 1) = ((pre.length + 1 : Nat) : Int) := IntWalk.wrap64_in _ (by omega)
    gi_wp2
    have HPL := Lib.hid (show ((pre.length : Int) + 1) = (((pre ++ [x]).length : Nat) : Int) by simp)
    obtain ⟨W2, hW2⟩ : ∃ W2, W2 = W.setCell ⟨w.heap.size + 1 + 1, 0, none⟩ (.int .i64 ((pre.length : Int) + 1)) := ⟨_, rfl⟩
    have HKO := Lib.hid (show KeepsOthers W W2 by rw [hW2]; exact KeepsOthers.setCell _ _ _)
    have HG2 := Lib.hid (show w6.grownBy W2 (some (w.heap.size + 1 + 1)) by rw [hW2]; exact grown_put HG.out (.inl rfl) _)
    have HBX2 := Lib.hid (show Box W2 (w.heap.size + 1 + 1) 3 #[.int .i64 ((pre ++ [x]).length : Nat)] by rw [hW2, HPL.out]; exact HBX.out.put 0 _)
    have bs := hb.small
    have gs := hz.small
    have HTW2 := Lib.hid (show Box W2 b _ _ by rw [hW2]; exact HTW.out.past (by omega) _)
    have HZW2 := Lib.hid (show Box W2 g _ _ by rw [hW2]; exact HZW.out.past (by omega) _)
    have HB0W2 := Lib.hid (show Box W2 w.heap.size _ _ by rw [hW2]; exact HB0W.out.past (by omega) _)
    have HB1W2 := Lib.hid (show Box W2 (w.heap.size + 1) _ _ by rw [hW2]; exact HB1W.out.past (by omega) _)
    rw [← hW2]
    clear hW2 b0 n0 c0 cf s1 s2
    have t2 := HTW2.out.get 2
    have b0 := HB0W2.out.get 0
    have n0 := HB1W2.out.get 0
    have z0 := HZW2.out.get x.val
    rw [HZZ.out x.val xl] at z0
    obtain ⟨v, hvd⟩ : ∃ v, v = tabE R (hsOf L) L.length x.val := ⟨_, rfl⟩
    have HV := Lib.hid hvd
    rw [← hvd] at z0
    clear hvd
    have s1 : IntKind.i64.wrap ((nn : Int) + 1) = (nn : Int) + 1 := IntWalk.i64_in _ (by omega)
    by_cases hv : v = nn + 1
    · subst hv
      have d1 : (((nn + 1 : Nat) : Int) == (nn : Int) + 1) = true := by simp
      refine quiet_round (F := Fence.wide) rfl (by kernel_rfl) (by kernel_rfl) (by kernel_rfl) ?_
      repeat (gi_big_quiet_step (fail))
      refine wpQuietIn_nil ?_
      rintro _ ⟨mq, rfl⟩
      gi_wp2
      exact ⟨HKO.out.trans (show KeepsOthers W2 (W2.drewN mq) from ⟨Nat.le_refl _, fun _ _ h _ => h⟩), rfl, pre, x, rfl, HV.out.symm, HBX2.out.drewN mq, grown_drewN HG2.out mq⟩
    · have d1 : ((v : Int) == (nn : Int) + 1) = false := by simp; omega
      have HNV := Lib.hid hv
      clear hv
      refine quiet_round (F := Fence.wide) rfl (by kernel_rfl) (by kernel_rfl) (by kernel_rfl) ?_
      repeat (gi_big_quiet_step (fail))
      refine wpQuietIn_nil ?_
      rintro _ ⟨mq, rfl⟩
      gi_wp2
      exact ⟨HKO.out.trans (show KeepsOthers W2 (W2.drewN mq) from ⟨Nat.le_refl _, fun _ _ h _ => h⟩), trivial, fun y hy => (List.mem_append.1 hy).elim (HP.out y) (fun e => by
        obtain rfl : y = x := by simpa using e
        rw [← HV.out]; exact HNV.out), HBX2.out.drewN mq, grown_drewN HG2.out mq⟩
  case done =>
    rintro D ys W hD rfl ⟨hp, hbx, hg⟩ hK
    exfalso
    exact hp _ (slots_mem (by omega) HJ.out) HAT.out
  case stop =>
    rintro D c pre W hD ⟨k, hk, rfl⟩ ⟨rfl, pre', x, h2, h3, h4, h5⟩ hK
    cases k with
    | zero => exact absurd h2 (by simp [slotsL])
    | succ k =>
      rw [slots_length] at h4
      rw [slots_succ] at h2
      obtain ⟨e1, e2⟩ := List.append_inj' h2 rfl
      subst e1
      injection e2 with e2
      subst e2
      rw [← HHS.out] at h3
      have HKE := Lib.hid (look_is hn (Nat.le_of_lt hnR) (by omega) h3)
      have c0 := h4.get 0
      have HK := Lib.hid hK
      have HD := Lib.hid hD
      have HG7 := Lib.hid (grown_join HGW.out h5 (.inr HNB.out))
      clear h2 h3 h5 hK hD
      gi_wp2
      refine ⟨by simp, .inl ⟨_, _, rfl, run_takeDeferred HK.out, ?_⟩⟩
      exact ⟨_, results_tmp rfl _ _ _, by rw [← HKE.out]; rfl, grown_join HG7.out (grownBy_putObj' W D _) (.inr (fun z e => by injection e with e; subst e; exact Nat.le_trans HGW.out.size HD.out))⟩
set_option maxRecDepth 100000 in
set_option maxHeartbeats 2000000 in
theorem ownLongest_any (F : Nat → Prop) (q : Addr) (l : List Lab) (w : World) (h : OTab w F q l) :
    Calls Try.prog 20 #[.pointer (some q)] w (ToldG (.int .i64 (longE (roomE l.length) (hsOf l) l.length)) w) := by
  obtain ⟨b, g, A, c, Z, rfl, ht, hgood, hoks, _⟩ := h
  have HRL := Lib.hid (room_more l.length)
  have HRS := Lib.hid (show roomE l.length ≤ 20000 by have := room_small l.length; have := hgood.2; omega)
  generalize roomE l.length = R at *
  have HM := Lib.hid (made_yes b _ _ w ht.1)
  have HB := Lib.hid ht.1
  have HLO := Lib.hid (fun nn w' (hn : nn < l.length) (hg : w.grownBy w' none) => ownLooked_any b g A c R Z l nn w' (ht.grow hg) hn hgood.2 hoks HRL.out HRS.out)
  have HJL := Lib.hid (fun i (hi : i < l.length) => (jE_spec (hs := hsOf l) (R := R) (show i < R by have := HRL.out; omega)).1)
  have HLL := Lib.hid (fun i (hi : i ≤ l.length) => long_le (hs := hsOf l) (R := R) i (by have := HRL.out; omega))
  have hl4 := hgood.2
  have hR2 := HRS.out
  clear ht hgood hoks
  go_enter Try.func20, Try.ntmps20
  go_wp2_with fail
  refine HM.out.mono ?_
  rintro e w1 ⟨rfl, hg⟩
  have HG := Lib.hid hg
  have t1 := (HB.out.grown hg (by simp)).get 1
  clear hg
  go_wp2_with fail
  clear t1
  go_loopw [3, 13] (fun m i wr => ∃ x : Nat, x ≤ l.length ∧ i = .int .i64 x ∧ m = .int .i64 (longE R (hsOf l) x) ∧ w.grownBy wr none) (fun _ i _ => l.length - (intOf i).toNat)
  case atStart => exact ⟨0, by omega, rfl, rfl, HG.out⟩
  case round =>
    obtain ⟨x, hx, rfl, rfl, hg⟩ := hrel
    have HGR := Lib.hid hg
    clear hg
    by_cases hlt : x < l.length
    · have HLX := Lib.hid (HLO.out x wr hlt HGR.out)
      have hj := HJL.out x hlt
      have hll := HLL.out x hx
      go_wp2_with fail
      refine HLX.out.mono ?_
      rintro e w2 ⟨rfl, hg2⟩
      have HG2 := Lib.hid (grown_join HGR.out hg2 (.inr (by simp)))
      clear hg2
      go_wp2_with fail
      go_roundw
      case rel => exact ⟨x + 1, by omega, by go_num, by rw [longE]; exact congrArg (Value.int .i64) (by first | omega | (split <;> omega)), HG2.out⟩
      case measure => simp [intOf]; omega
    · obtain rfl : x = l.length := by omega
      go_wp2_with fail
      go_ret
      exact ⟨rfl, HGR.out⟩
end Go.Proofs.Ytfemfkiamipipaa
