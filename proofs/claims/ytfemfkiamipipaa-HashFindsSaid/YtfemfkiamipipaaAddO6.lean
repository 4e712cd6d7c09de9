/-
  Layer 6: the program's own Add.
-/
import Derived.Test.YtfemfkiamipipaaDoubO6
import Derived.Test.YtfemfkiamipipaaPartsO5
import Derived.Test.YtfemfkiamipipaaMany6
import Derived.Deep.RegionLaw
import Derived.BigQuiet
namespace Go.Proofs.Ytfemfkiamipipaa
open Go.ChangeShapes Go.WideShapes Go.ChangeAt Go.RowKit
set_option linter.unusedVariables false

theorem run_append_labs2 {t e : TypeId} {i0 : TypeInfo} {z : Value} {b0 : Nat} (ht : Try.prog.underlying t = some (.slice e)) (hi : Try.prog.info? e = some i0) (hz0 : i0.zero = some z) (hz1 : i0.size = 3) (hz2 : i0.bytes = 32) (hzc : z.cells.size = 3)
    {w : World} {base n c m c' B : Nat} {A : Option Addr} {ad : Addr} {xs ys : List Lab} (hown : OwnL w base e A n c xs) (hsrc : Labs w B (some ad) m ys) (hb : base ≤ w.heap.size) (hle : n + m ≤ 4194304) (ty : TypeId) :
    ∃ A1 c1 w1, (Builtin.append_ #[t, t] ty #[.slice A n c, .slice (some ad) m c']).run Try.prog w = .ok (.slice A1 (n + m) c1) w1 ∧ OwnL w1 base e A1 (n + m) c1 (xs ++ ys) ∧ w.grownBy w1 (A.map (·.block)) ∧ (A1.map (·.block) = A.map (·.block) ∨ A1.map (·.block) = some w.heap.size) := by
  obtain ⟨v', w', hr, h2, h3, h4, h5⟩ := run_append_own_at (P := Try.prog) (w := w) base t ty e i0 _ 3 32 ht hi hz0 hz1 hz2 hzc (by omega) _ n _ hown.2 ad m c' (labV ys) (by rw [labV_length, hsrc.1]) (labs_cells hsrc) (labV_one _) (by simp only [maxLen]; omega) (by omega) hb
  obtain ⟨A1, c1, rfl⟩ := own_slice3 h2
  refine ⟨A1, c1, w', hr, ⟨by rw [List.length_append, hown.1, hsrc.1], ?_⟩, by rw [map_own] at h3; exact h3, by rw [map_own, map_own] at h5; exact h5⟩
  rw [labV_app]
  exact h2
theorem step_append_labs2 {t e : TypeId} {i0 : TypeInfo} {z : Value} (ht : Try.prog.underlying t = some (.slice e)) (hi : Try.prog.info? e = some i0) (hz0 : i0.zero = some z) (hz1 : i0.size = 3) (hz2 : i0.bytes = 32) (hzc : z.cells.size = 3)
    {ops : Array Oper} {o : Oper} {a : Act} {w : World} {K : Act → World → Prop} {Q : Exit → Act → World → Prop} {E : Prop} {base n c m c' B : Nat} {A : Option Addr} {ad : Addr} {xs ys : List Lab} (hgd : o.guard = none) (d s : Operand)
    (ho : o.op = .call { callee := .builtin .append, args := #[d, s], argTypes := #[t, t] }) (hd : a.eval d = .slice A n c) (hs : a.eval s = .slice (some ad) m c') (hown : OwnL w base e A n c xs) (hsrc : Labs w B (some ad) m ys) (hb : base ≤ w.heap.size) (hle : n + m ≤ 4194304)
    (hK : ∀ A1 c1 w1, Hid (OwnL w1 base e A1 (n + m) c1 (xs ++ ys)) → Hid (w.grownBy w1 (A.map (·.block))) → Hid (A1.map (·.block) = A.map (·.block) ∨ A1.map (·.block) = some w.heap.size) → K (a.put o.dst (.slice A1 (n + m) c1)) w1) : if Region.wanted o (yielded ops a.tmps) = true then Oper.wp Try.prog o a w K Q else E := by
  have hw : Region.wanted o (yielded ops a.tmps) = true := by simp [Region.wanted, hgd]
  rw [if_pos hw]
  obtain ⟨A1, c1, w1, hrun, h1, h2, h3⟩ := run_append_labs2 (b0 := 0) ht hi hz0 hz1 hz2 hzc hown hsrc hb hle o.type
  unfold Oper.wp
  simp [execOp, ho, resolve, invoke, builtin, hd, hs, Result.andThen]
  rw [hrun]
  exact hK _ _ _ (Lib.hid h1) (Lib.hid h2) (Lib.hid h3)
theorem addedO_kept {F : Nat → Prop} {q : Addr} {l : List Lab} {a : Lab} {k : Nat} {w w' : World} (h : OTab w F q l) (hg : w.grownBy w' none) (he : addE l a = (l, 0, k)) : AddedO OTab F q (addE l a) w (.returned (.tuple #[.int .i64 0, .int .i64 k])) w' := by
  rw [he]
  exact ⟨rfl, (h.grow hg).more fun x hx => .inl hx, Spare.of_grown hg⟩
theorem mid_box {w : World} {b g : Nat} {t t' : TypeId} {v0 v1 v2 x y z : Value} (h : Box w b t #[v0, v1, v2]) (h' : Box w g t' #[x, y, z]) : w.cell? ⟨b, 1, none⟩ = some v1 ∧ w.cell? ⟨g, 0, none⟩ = some x ∧ w.cell? ⟨g, 1, none⟩ = some y ∧ w.cell? ⟨g, 2, none⟩ = some z :=
  ⟨h.get 1, h'.get 0, h'.get 1, h'.get 2⟩
theorem hs_snoc (l : List Lab) (a : Lab) (R : Nat) : tabE R (hsOf (l ++ [a])) l.length = tabE R (hsOf l) l.length :=
  tab_same l.length fun i hi => by unfold hsOf; rw [getD_snoc, if_pos hi]
/-- the labels have become one more, the slots not yet. -/
theorem tab_more {w w5 : World} {b g : Nat} {A B1 : Option Addr} {c k1 R : Nat} {Z : Array Value} {l : List Lab} {a : Lab} (h : TabI w b g A c R Z l l.length) (hg5 : w.grownBy w5 (A.map (·.block))) (ho5 : OwnL w5 0 38 B1 (l.length + 1) k1 (l ++ [a])) :
    TabI (w5.setCell ⟨b, 1, none⟩ (.slice B1 (l.length + 1) k1)) b g B1 k1 R Z (l ++ [a]) l.length := by
  obtain ⟨hb, ho, hz, hZ⟩ := h
  have hAb : some b ≠ A.map (·.block) := fun e => own_apart ho.2 hb (by decide) (by rw [map_own]; exact e.symm)
  have hAg : some g ≠ A.map (·.block) := fun e => own_apart ho.2 hz (by decide) (by rw [map_own]; exact e.symm)
  have hb5 := hb.grown hg5 hAb
  have hz5 := hz.grown hg5 hAg
  have hlen : (l ++ [a]).length = l.length + 1 := by simp
  refine ⟨?_, ?_, hz5.past (Ne.symm (Box.apart hb hz (by decide))) _, fun x hx => by rw [hs_snoc]; exact hZ x hx⟩
  · rw [hlen]; exact hb5.put 1 _
  · rw [hlen]
    exact ⟨hlen, (Spare.of_row (F := fun z => z = b) (grown_put (j := 1) (grown_refl w5 (some b)) (.inl rfl) (.slice B1 (l.length + 1) k1)) rfl).own ho5.2 (fun z hz2 hzg => own_apart ho5.2 hb5 (by decide) (by rw [hz2, hzg]))⟩
theorem spare_opt {F : Nat → Prop} {A : Option Addr} {w w' : World} (h : w.grownBy w' (A.map (·.block))) (hF : ∀ a, A = some a → F a.block) : Spare F w w' := by
  cases A with
  | none => exact Spare.of_grown h
  | some a => exact Spare.of_row h (hF a rfl)
theorem addedO_more {F : Nat → Prop} {l : List Lab} {a : Lab} {w w8 : World} {b g' : Nat} {B1 : Option Addr} {k1 : Nat} {Z' : Array Value} (he : addE l a = (l ++ [a], l.length, 0)) (ht : TabI w8 b g' B1 k1 (roomE (l.length + 1)) Z' (l ++ [a]) (l.length + 1)) (hs : Spare F w w8) (hgood : Good (l ++ [a])) (hoks : Oks (l ++ [a]))
    (hb : F b) (hg : NewB F w w8 g') (hB : ∀ x, B1 = some x → NewB F w w8 x.block) : AddedO OTab F ⟨b, 0, none⟩ (addE l a) w (.returned (.tuple #[.int .i64 (l.length : Int), .int .i64 0])) w8 := by
  rw [he]
  have hlen : (l ++ [a]).length = l.length + 1 := by simp
  exact ⟨rfl, ⟨b, g', B1, k1, Z', rfl, by rw [hlen]; exact ht, hgood, hoks, .inl hb, hg, hB⟩, hs⟩
set_option maxRecDepth 100000 in
set_option maxHeartbeats 4000000 in
theorem ownAdd_any (F : Nat → Prop) (q : Addr) (l : List Lab) (ak an : Int) (as' : ByteArray) (w : World) (h : OTab w F q l) (ha : okL ⟨ak, an, as'⟩) :
    Calls Try.prog 15 #[.pointer (some q), .agg #[.int .u8 ak, .int .i64 an, .string as']] w (AddedO OTab F q (addE l ⟨ak, an, as'⟩) w) := by
  have HR := Lib.hid h
  have HFI := Lib.hid (fun w' (hg : w.grownBy w' none) => ownFind_any F q l ak an as' w' (h.grow hg) ha)
  obtain ⟨b, g, A, c, Z, rfl, ht, hgood, hoks, hFb, hFg, hFA⟩ := h
  have HT := Lib.hid ht
  have HOK := Lib.hid hoks
  have HGD := Lib.hid hgood
  have HF := Lib.hid (And.intro hFb (And.intro hFg hFA))
  have HA := Lib.hid ha
  obtain ⟨w1, hw1⟩ : ∃ w1, w1 = w.alloc (.cells #[.int .u8 ak, .int .i64 an, .string as'] 38) := ⟨_, rfl⟩
  have HG1 := Lib.hid (show w.grownBy w1 none by rw [hw1]; exact World.grownBy_alloc _ _ _)
  have HX := Lib.hid (show Box w1 w.heap.size 38 #[.int .u8 ak, .int .i64 an, .string as'] by rw [hw1]; exact Box.fresh _ _ _)
  have HM := Lib.hid (fun w' (hg : w.grownBy w' none) => made_yes b _ _ w' (ht.1.grown hg (by simp)))
  have HRI := Lib.hid (fun w' => ownRight_any ak an as' w' ha.2.2.2.2 ha.2.2.1 ha.2.2.2.1)
  have HAR := Lib.hid (show ∀ b, rightE ⟨ak, an, as'⟩ = b → addE l ⟨ak, an, as'⟩ = if b = false then (l, 0, 9) else if (numOf l ⟨ak, an, as'⟩).isSome then (l, 0, 6) else if 4096 ≤ l.length then (l, 0, 7) else (l ++ [⟨ak, an, as'⟩], l.length, 0) from fun b hb => by unfold addE; rw [hb])
  have HNG := Lib.hid (show numOf l ⟨ak, an, as'⟩ = none → Good l → l.length ≠ 4096 → Good (l ++ [⟨ak, an, as'⟩]) from fun h1 h2 h3 => ⟨apart_snoc h2.1 h1, by simp; have := h2.2; omega⟩)
  have HW1 := Lib.hid hw1
  clear hoks hgood hFb hFg hFA ha hw1 ht
  go_enter Try.func15, Try.ntmps15
  go_wp2_with fail
  rw [← HW1.out]
  refine (HM.out _ HG1.out).mono ?_
  rintro e w2 ⟨rfl, hg⟩
  have HG2 := Lib.hid (grown_join HG1.out hg (.inr (by simp)))
  have HX2 := Lib.hid (HX.out.grown hg (by simp))
  clear hg
  have hk1 := HX2.out.get 0
  have hk2 := HX2.out.get 1
  have hk3 := HX2.out.get 2
  go_wp2_with fail
  refine (HRI.out _).mono ?_
  rintro e w3 ⟨rfl, hg⟩
  have HG3 := Lib.hid (grown_join HG2.out hg (.inr (by simp)))
  have HX3 := Lib.hid (HX2.out.grown hg (by simp))
  clear hg hk1 hk2 hk3 HG2 HX2
  have HAR := Lib.hid (HAR.out _ rfl)
  generalize rightE ⟨ak, an, as'⟩ = rb at *
  cases rb
  · go_wp2_with fail
    go_ret2
    exact addedO_kept HR.out HG3.out HAR.out
  · have hk1 := HX3.out.get 0
    have hk2 := HX3.out.get 1
    have hk3 := HX3.out.get 2
    go_wp2_with fail
    refine (HFI.out _ HG3.out).mono ?_
    rintro e w4 ⟨rfl, hg⟩
    have HG4 := Lib.hid (grown_join HG3.out hg (.inr (by simp)))
    have HX4 := Lib.hid (HX3.out.grown hg (by simp))
    clear hg hk1 hk2 hk3 HG3 HX3
    have HN := Lib.hid (show numOf l ⟨ak, an, as'⟩ = numOf l ⟨ak, an, as'⟩ from rfl)
    generalize numOf l ⟨ak, an, as'⟩ = o at *
    cases o with
    | some i =>
      dsimp only [findV]
      go_wp2_with fail
      go_ret2
      exact addedO_kept HR.out HG4.out HAR.out
    | none =>
      dsimp only [findV]
      have HT4 := Lib.hid (HT.out.grow HG4.out)
      have b1 := HT4.out.1.get 1
      have hl4 := HGD.out.2
      by_cases h4 : l.length = 4096
      · have d1 : ((l.length : Int) == 4096) = true := by simp; omega
        go_wp2_with fail
        go_ret2
        exact addedO_kept HR.out HG4.out (by rw [HAR.out, if_neg (by simp), if_neg (by simp), if_pos (by omega)])
      · have d1 : ((l.length : Int) == 4096) = false := by simp; omega
        have HAR2 := Lib.hid (show addE l ⟨ak, an, as'⟩ = (l ++ [⟨ak, an, as'⟩], l.length, 0) by rw [HAR.out, if_neg (by simp), if_neg (by simp), if_neg (by omega)])
        have HNG2 := Lib.hid (HNG.out rfl HGD.out h4)
        obtain ⟨i0, hi, hz0, hz1, hz2⟩ := info_parts info_lab
        have HI := Lib.hid hi
        have HI0 := Lib.hid hz0
        have HI1 := Lib.hid hz1
        have HI2 := Lib.hid hz2
        have HBS := Lib.hid (fun w' (hg : w4.grownBy w' none) => HT4.out.1.grown hg (by simp))
        have HXS := Lib.hid (fun w' (hg : w4.grownBy w' none) => HX4.out.grown hg (by simp))
        have HAb := Lib.hid (show some b ≠ A.map (·.block) from fun e => own_apart HT4.out.2.1.2 HT4.out.1 (by decide) (by rw [map_own]; exact e.symm))
        have h4n : ¬ 4096 ≤ l.length := by omega
        clear hi hz0 hz1 hz2 h4
        go_wp2_with fail
        clear b1
        obtain ⟨e0, e1, e2, e3⟩ := mid_box HT4.out.1 HX4.out
        obtain ⟨e10, e11, e12, e13⟩ := mid_box (HBS.out (w4.alloc (.cells #[.int .u8 ak, .int .i64 an, .string as'] 38)).drew (grown_drew (grown_alloc (grown_refl _ _) _))) (HXS.out (w4.alloc (.cells #[.int .u8 ak, .int .i64 an, .string as'] 38)).drew (grown_drew (grown_alloc (grown_refl _ _) _)))
        go_region_law (refine step_append_labs2 Try.underlying29 HI.out HI0.out HI1.out HI2.out (by rfl) rfl (.tmp 33) (.tmp 35) rfl (by rfl) (by rfl) (base := 0) (xs := l) (ys := [⟨ak, an, as'⟩]) (OwnL.grow HT4.out.2.1 (grown_drew (grown_alloc (grown_refl _ _) _))) (labs_one (box_dr1 _ _ _)) (Nat.zero_le _) (by omega) ?_; intro B1 k1 w5 ho5 hg5 hbk5; have hgc5 : Hid (w4.grownBy w5 (A.map (·.block))) := Lib.hid (grown_join (grown_more (grown_drew (grown_alloc (grown_refl w4 none) _)) _) hg5.out (.inl rfl)); have HB5 := Lib.hid (HT4.out.1.grown hgc5.out HAb.out); have hf5 := HB5.out.free 1; have b5 := HB5.out.get 1)
        all_goals
          clear e0 e1 e2 e3 e10 e11 e12 e13
          obtain ⟨w6, hw6⟩ : ∃ w6, w6 = w5.setCell ⟨b, 1, none⟩ (.slice B1 (l.length + 1) k1) := ⟨_, rfl⟩
          have HT6 := Lib.hid (show TabI w6 b g B1 k1 (roomE l.length) Z (l ++ [⟨ak, an, as'⟩]) l.length by rw [hw6]; exact tab_more HT4.out hgc5.out ho5.out)
          have HS6 := Lib.hid (show Spare F w w6 by
            rw [hw6]
            exact ((Spare.of_grown (F := F) HG4.out).join (spare_opt hgc5.out HF.out.2.2) (fun _ _ h => h)).join (Spare.of_row (grown_put (j := 1) (grown_refl w5 (some b)) (.inl rfl) _) HF.out.1) (fun _ _ h => h))
          have HZ6 := Lib.hid (show w6.heap.size = w5.heap.size by rw [hw6]; simp)
          have HN6 := Lib.hid (show ∀ x, B1 = some x → F x.block ∨ (w.heap.size ≤ x.block ∧ x.block < w6.heap.size) from fun x hx => by
            subst hx
            rcases hbk5.out with h | h
            · cases A with
              | none => cases h
              | some a =>
                injection h with h
                have h : x.block = a.block := h
                exact .inl (by rw [h]; exact HF.out.2.2 a rfl)
            · injection h with h
              have h : x.block = (w4.alloc (.cells #[.int .u8 ak, .int .i64 an, .string as'] 38)).drew.heap.size := h
              have h1 : x.block < w5.heap.size := (ho5.out.2.lt x.block rfl).2
              have h2 := HG4.out.size
              have h3 : (w4.alloc (.cells #[.int .u8 ak, .int .i64 an, .string as'] 38)).drew.heap.size = w4.heap.size + 1 := by simp
              rw [HZ6.out]
              exact .inr ⟨by omega, h1⟩)
          rw [← hw6]
          have hRS := room_step l.length
          have hRL := room_more l.length
          have hR8 := room_least l.length
          have hRB := room_small l.length
          obtain ⟨R, hR⟩ : ∃ R, R = roomE l.length := ⟨_, rfl⟩
          rw [← hR] at HT6 hRS hRL hR8 hRB
          have HRS := Lib.hid hRS
          have HOK6 := Lib.hid (oks_snoc HOK.out HA.out)
          have hlen : (l ++ [(⟨ak, an, as'⟩ : Lab)]).length = l.length + 1 := by simp
          have HLN := Lib.hid hlen
          have HEN := Lib.hid (fun w' => show Calls Try.prog 29 #[.int .i64 (R : Int), .int .i64 ((l.length : Int) + 1)] w' fun e w'' => e = .returned (.bool (decide (3 * (l.length + 1) < 2 * R))) ∧ w'' = w' by
            rw [show ((l.length : Int) + 1) = ((l.length + 1 : Nat) : Int) by omega]
            exact enough_any R (l.length + 1) w' (by omega) (by omega))
          have t1 : w6.cell? ⟨b, 1, none⟩ = some (.slice B1 (l.length + 1) k1) := by have := HT6.out.1.get 1; rw [hlen] at this; exact this
          have t2 := HT6.out.1.get 2
          clear hw6 hRS hlen hR hf5 b5
          by_cases hen : 3 * (l.length + 1) < 2 * R
          · rw [decide_eq_true hen] at HEN
            have HRE := Lib.hid (show R = roomE (l.length + 1) by rw [HRS.out, if_neg (by omega)])
            have HLY := Lib.hid (fun m => ownLay_any b g B1 k1 R Z _ l.length (w6.drewN m) (HT6.out.grow (grown_drewN (grown_refl _ _) m)) (by rw [HLN.out]; omega) (by rw [HLN.out]; omega) HOK6.out hRL (by omega))
            clear hen
            go_wp2_with fail
            go_quiet ((go_at_call 29; exact Calls.quiet_of_same (HEN.out _)))
            go_wp2_with fail
            refine (HLY.out _).mono ?_
            rintro e w8 ⟨⟨v, rfl⟩, ⟨Z8, ht8⟩, hg8⟩
            have HT8 := Lib.hid ht8
            have HG8 := Lib.hid (show w6.grownBy w8 (some g) from grown_join (grown_drewN (grown_refl w6 (some g)) _) hg8 (.inl rfl))
            clear ht8 hg8 t1 t2
            go_wp2_with fail
            go_ret2
            exact addedO_more HAR2.out (by rw [← HRE.out]; exact HT8.out) (HS6.out.join (Spare.of_row HG8.out HF.out.2.1) (fun _ _ h => h)) HNG2.out HOK6.out HF.out.1 (.inl HF.out.2.1) (fun x hx => (HN6.out x hx).imp id (fun h => ⟨h.1, Nat.lt_of_lt_of_le h.2 HG8.out.size⟩))
          · rw [decide_eq_false hen] at HEN
            have HRE := Lib.hid (show 2 * R = roomE (l.length + 1) by rw [HRS.out, if_pos (by omega)])
            have HDB := Lib.hid (fun m => ownDouble_any b g B1 k1 R Z _ l.length (w6.drewN m) (HT6.out.grow (grown_drewN (grown_refl _ _) m)) (by rw [HLN.out]; omega) HOK6.out (by rw [HLN.out]; omega) (by omega))
            clear hen
            go_wp2_with fail
            go_quiet ((go_at_call 29; exact Calls.quiet_of_same (HEN.out _)))
            go_wp2_with fail
            refine (HDB.out _).mono ?_
            rintro e w8 ⟨⟨v, rfl⟩, ⟨Z8, ht8⟩, hg8, hs8⟩
            have HT8 := Lib.hid ht8
            have HG8 := Lib.hid (show w6.grownBy w8 (some b) from grown_join (grown_drewN (grown_refl w6 (some b)) _) hg8 (.inl rfl))
            have HS8 := Lib.hid (show w6.heap.size < w8.heap.size from hs8)
            clear ht8 hg8 hs8 t1 t2
            go_wp2_with fail
            go_ret2
            exact addedO_more HAR2.out (by rw [← HRE.out, ← HLN.out]; exact HT8.out) (HS6.out.join (Spare.of_row HG8.out HF.out.1) (fun _ _ h => h)) HNG2.out HOK6.out HF.out.1 (.inr ⟨HS6.out.size, HS8.out⟩) (fun x hx => (HN6.out x hx).imp id (fun h => ⟨h.1, Nat.lt_of_lt_of_le h.2 HG8.out.size⟩))
end Go.Proofs.Ytfemfkiamipipaa
