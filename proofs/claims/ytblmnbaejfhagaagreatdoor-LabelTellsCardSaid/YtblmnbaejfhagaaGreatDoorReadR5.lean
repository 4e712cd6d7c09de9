/-
  Layer 5: the program's readTuple, Read.
-/
import Derived.Test.YtblmnbaejfhagaaGreatDoorReadI5
namespace Go.Proofs.YtblmnbaejfhagaaGreatDoor
open Go.ChangeShapes Go.WideShapes Go.ChangeAt Go.RowKit
set_option linter.unusedVariables false

/-- the tuple that the program reads behind its bracket. -/
def tupRead (s : List UInt8) : Option Lab := match tupP 4 s with
  | some l => tupE l
  | none => none
/-- what has been read of a tuple, and what is left. -/
def Reads2 (s : List UInt8) (l : List Lab) (r : List UInt8) : Prop := l.length ≤ 4 ∧ tupP 4 s = (tupP (4 - l.length) r).map (l ++ ·)
theorem Reads2.start (s : List UInt8) : Reads2 s [] s := ⟨by simp, by cases tupP 4 s <;> simp⟩
theorem tupP_step (f : Nat) (s : List UInt8) : tupP (f + 1) s = match partP s with
    | none => none
    | some p => if p.2 = [41] then some [p.1] else match behind 44 p.2 with
      | some t => (tupP f t).map (p.1 :: ·)
      | none => none := rfl
theorem Reads2.split {s r : List UInt8} {l : List Lab} (h : Reads2 s l r) (hl : l.length < 4) : ∃ f, 4 - l.length = f + 1 ∧ 4 - (l.length + 1) = f := ⟨3 - l.length, by omega, by omega⟩
theorem Reads2.bad {s r : List UInt8} {l : List Lab} (h : Reads2 s l r) (hl : l.length < 4) (hp : partP r = none) : tupRead s = none := by
  obtain ⟨f, hf, _⟩ := h.split hl
  unfold tupRead
  rw [h.2, hf, tupP_step, hp]; rfl
theorem Reads2.done {s r : List UInt8} {l : List Lab} {a : Lab} (h : Reads2 s l r) (hl : l.length < 4) (hp : partP r = some (a, [41])) : tupRead s = tupE (l ++ [a]) := by
  obtain ⟨f, hf, _⟩ := h.split hl
  unfold tupRead
  rw [h.2, hf, tupP_step, hp]; rfl
theorem Reads2.odd {s r r' : List UInt8} {l : List Lab} {a : Lab} (h : Reads2 s l r) (hl : l.length < 4) (hp : partP r = some (a, r')) (h41 : r' ≠ [41]) (hb : behind 44 r' = none) : tupRead s = none := by
  obtain ⟨f, hf, _⟩ := h.split hl
  unfold tupRead
  rw [h.2, hf, tupP_step, hp]
  dsimp only
  rw [if_neg h41, hb]; rfl
theorem Reads2.next {s r r' t : List UInt8} {l : List Lab} {a : Lab} (h : Reads2 s l r) (hl : l.length < 4) (hp : partP r = some (a, r')) (h41 : r' ≠ [41]) (hb : behind 44 r' = some t) : Reads2 s (l ++ [a]) t := by
  obtain ⟨f, hf, hf2⟩ := h.split hl
  refine ⟨by rw [List.length_append, List.length_singleton]; omega, ?_⟩
  rw [h.2, hf, tupP_step, hp]
  dsimp only
  rw [if_neg h41, hb, List.length_append, List.length_singleton, hf2]
  cases ht : tupP f t <;> simp [ht]
theorem Reads2.full {s r : List UInt8} {l : List Lab} (h : Reads2 s l r) (hl : l.length = 4) : tupRead s = none := by
  unfold tupRead
  rw [h.2, hl]; rfl
theorem part_plain {s r : List UInt8} {a : Lab} (h : partP s = some (a, r)) : plainL a ∧ r.length < s.length := by
  obtain ⟨ho, hs⟩ := part_some h
  obtain ⟨h1, h2⟩ := show_one ho
  refine ⟨?_, ?_⟩
  · rcases h2 with ⟨h3, h4, h5, h6⟩ | ⟨h3, h4⟩
    · exact .inl ⟨h3, h4, h5, h6⟩
    · exact .inr ⟨h3, h4, by rcases hs with hs | hs; omega; exact hs⟩
  · have hne : showP a ≠ [] := by
      unfold showP
      split
      · exact List.cons_ne_nil _ _
      · unfold intL
        split
        · exact List.cons_ne_nil _ _
        · exact decL_ne _
    rw [h1, List.length_append]
    have : 0 < (showP a).length := List.length_pos_iff.2 hne
    omega
theorem str_one {r : ByteArray} (h : r.data.toList = [41]) : r = ⟨#[41]⟩ := by rw [← txt_of r, h]; rfl
theorem str_not {r : ByteArray} (h : r.data.toList ≠ [41]) : (r.toList == [41]) = false ∧ ¬ r.toList = [41] := by
  have h2 : ¬ r.toList = [41] := by rw [Lib.toList_data]; exact h
  exact ⟨by simp [h2], h2⟩
set_option maxRecDepth 100000 in
set_option maxHeartbeats 4000000 in
theorem ownTuple_read (s : ByteArray) (w : World) (hs : s.size ≤ 1048576) (hv : Vars w) : Calls Tryz.prog 29 #[.string s] w (GaveTup (tupRead s.data.toList) w) := by
  have HIN := Lib.hid (info_parts info_lab)
  have HV := Lib.hid hv
  have HTU := Lib.hid (fun A n c l w' h h2 h3 => ownTuple_any A n c l w' h h2 h3)
  obtain ⟨w1, hw1⟩ : ∃ w1, w1 = w.alloc (.cells #[.int .u8 0, .int .i64 0, .string noS] 27) := ⟨_, rfl⟩
  have HW1 := Lib.hid (show w1 = w.alloc (.cells #[.int .u8 0, .int .i64 0, .string ⟨#[]⟩] 27) from hw1)
  have HBX := Lib.hid (show Box w1 w.heap.size 27 #[.int .u8 0, .int .i64 0, .string noS] by rw [hw1]; exact Box.fresh w _ _)
  have HG0 := Lib.hid (show w.grownBy w1 none by rw [hw1]; exact World.grownBy_alloc w _ none)
  have HS1 := Lib.hid (show w1.heap.size = w.heap.size + 1 by rw [hw1]; simp)
  clear hw1 hv
  go_enter Tryz.func29, Tryz.ntmps29
  go_wp2_with fail
  rw [← HW1.out]
  go_loopw [0, 4] (fun v0 v4 wr => ∃ (r : ByteArray) (l : List Lab), v0 = .string r ∧ r.size ≤ 1048576 ∧ wr.ownsRow w1.heap.size 27 3 v4 l.length (labV l) ∧ Reads2 s.data.toList l r.data.toList ∧ (∀ x ∈ l, plainL x) ∧ Below w1.heap.size w1 wr) (fun v0 _ _ => strOf v0)
  case atStart => exact ⟨s, [], rfl, hs, World.ownsRow_nil _ _ _ _, Reads2.start _, by simp, Below.refl _ _⟩
  case round =>
    obtain ⟨r, l, rfl, hr, ho, hrd, hpl, hb⟩ := hrel
    have HO := Lib.hid ho
    have HRD := Lib.hid hrd
    have HPL := Lib.hid hpl
    have HB := Lib.hid hb
    have HGW := Lib.hid (grown_below HG0.out hb)
    have HBW := Lib.hid (HBX.out.below hb (by rw [HS1.out]; omega))
    obtain ⟨A5, c5, hv5⟩ := own_slice3 ho
    subst hv5
    have hl4 := hrd.1
    generalize hm : l.length = m at *
    have HM := Lib.hid hm
    clear ho hrd hb hm hpl
    by_cases hm4 : m < 4
    · have d1 : decide ((m : Int) < 4) = true := by simp; omega
      have HPR := Lib.hid (ownPart_read r wr hr (HV.out.grow HGW.out))
      have HML := Lib.hid (show l.length < 4 by rw [HM.out]; exact hm4)
      cases hp : partP r.data.toList with
      | none =>
        have HVV := Lib.hid (HRD.out.bad HML.out hp)
        rw [hp] at HPR
        have HPN := Lib.hid (show Calls Tryz.prog 30 #[.string r] wr (ToldG (.tuple #[.agg #[.int .u8 0, .int .i64 0, .string ⟨#[]⟩], .string ⟨#[]⟩, .bool false]) wr) from HPR.out)
        clear hp HPR
        go_wp2_with fail
        refine HPN.out.mono ?_
        rintro e w2 ⟨rfl, hg⟩
        have HG2 := Lib.hid (grown_join HGW.out hg (.inr (by simp)))
        have HB2 := Lib.hid (HBW.out.grown hg (by simp))
        clear hg
        obtain ⟨q0, q1, q2, f0, f1, f2, z0, z1, z2⟩ := (HB2.out.alloc (.cells #[.int .u8 0, .int .i64 0, .string ⟨#[]⟩] 27)).three (.int .u8 0) (.int .i64 0) (.string ⟨#[]⟩)
        have HG3 := Lib.hid (grown_alloc HG2.out (.cells #[.int .u8 0, .int .i64 0, .string ⟨#[]⟩] 27))
        go_upto_region 5 with fail
        obtain ⟨W, hW⟩ : ∃ W, W = w2.alloc (.cells #[.int .u8 0, .int .i64 0, .string ⟨#[]⟩] 27) := ⟨_, rfl⟩
        rw [← hW]
        rw [← hW] at q0 q1 q2 f0 f1 f2 z0 z1 z2 HG3
        clear hW
        go_wp2_with fail
        exact bodyPost_ret (v := .tuple #[.agg #[.int .u8 0, .int .i64 0, .string ⟨#[]⟩], .bool false]) (by simp [results, Tryz.results29, go_sem, z0, z1, z2]) rfl (gaveTup_no HVV.out (grown_put (grown_put (grown_put HG3.out (.inr (Nat.le_refl _)) _) (.inr (Nat.le_refl _)) _) (.inr (Nat.le_refl _)) _))
      | some p =>
        obtain ⟨⟨ak, an, as'⟩, q⟩ := p
        rw [hp] at HPR
        have HPN := Lib.hid (show Calls Tryz.prog 30 #[.string r] wr (ToldG (.tuple #[.agg #[.int .u8 ak, .int .i64 an, .string as'], .string (txt q), .bool true]) wr) from HPR.out)
        have HPA := Lib.hid (part_plain hp).1
        have HZ := Lib.hid (show (txt q).size < r.size by rw [txt_size, ← data_size]; exact (part_plain hp).2)
        have HTD := Lib.hid (txt_data q)
        clear HPR
        have HPP := Lib.hid hp
        clear hp
        generalize txt q = t at *
        go_wp2_with fail
        refine HPN.out.mono ?_
        rintro e w2 ⟨rfl, hg⟩
        have HO2 := Lib.hid (own_grow HO.out hg)
        have HB2 := Lib.hid (HB.out.trans ((below_of_grown hg).mono HB.out.size))
        clear hg
        go_upto_region 6 with fail
        obtain ⟨W, hW⟩ : ∃ W, W = w2.alloc (.cells #[.int .u8 ak, .int .i64 an, .string as'] 27) := ⟨_, rfl⟩
        rw [← hW]
        obtain ⟨b0, b1, b2⟩ := cells3 (show Box W w2.heap.size 27 #[.int .u8 ak, .int .i64 an, .string as'] by rw [hW]; exact Box.fresh _ _ _)
        have HO3 := Lib.hid (show W.ownsRow w1.heap.size 27 3 (.slice A5 m c5) m (labV l) by rw [hW]; exact HO2.out.alloc _)
        have HB3 := Lib.hid (show Below w1.heap.size w1 W by rw [hW]; exact HB2.out.trans (below_alloc HB2.out.size _))
        have hsz3 := HB3.out.size
        clear hW
        go_upto_region 7 with (at_builtin; obtain ⟨i0, hi, hz0, hz1, hz2⟩ := HIN.out; refine wpList_append_own_at _ rfl (.tmp 20) (.tmp 22) _ rfl w1.heap.size 27 i0 _ 3 32 Tryz.underlying30 hi hz0 hz1 hz2 rfl (by omega) (.slice A5 m c5) m _ rfl (HO3.out.alloc _) ⟨_, 0, none⟩ 1 1 [.int .u8 ak, .int .i64 an, .string as'] rfl rfl (new_cells3 _ _ _ _ _) (three_one _ _ _) (by simp only [maxLen]; omega) (by omega) (by simp; omega) ?_; intro v4 w4 hown4 hg4 _ _; have HO4 := Lib.hid hown4; have HG4 := Lib.hid hg4; clear hown4 hg4 hi hz0 hz1 hz2)
        have HB4 := Lib.hid (HB3.out.trans ((below_alloc HB3.out.size (.cells #[.int .u8 ak, .int .i64 an, .string as'] 27)).trans (below_of_grown_row HG4.out (Nat.le_trans HB3.out.size (by simp)) fun y hy => (HO3.out.lt y hy).1)))
        have HGW4 := Lib.hid (grown_below HG0.out HB4.out)
        have HBW4 := Lib.hid (HBX.out.below HB4.out (by rw [HS1.out]; omega))
        obtain ⟨A6, c6, hv6⟩ := own_slice3 HO4.out
        subst hv6
        have HLV := Lib.hid (labV_snoc l ⟨ak, an, as'⟩)
        have HLN := Lib.hid (show (l ++ [(⟨ak, an, as'⟩ : Lab)]).length = m + 1 by rw [List.length_append, HM.out]; rfl)
        have HPX := Lib.hid (show ∀ x ∈ l ++ [⟨ak, an, as'⟩], plainL x from fun x hx => by
          rcases List.mem_append.1 hx with h | h
          · exact HPL.out x h
          · rw [List.mem_singleton.1 h]; exact HPA.out)
        clear b0 b1 b2
        by_cases h41 : q = [41]
        · subst h41
          obtain rfl := str_one HTD.out
          have HVV := Lib.hid (HRD.out.done HML.out HPP.out)
          have HOL := Lib.hid (show OwnL w4 w1.heap.size 27 A6 (m + 1) c6 (l ++ [⟨ak, an, as'⟩]) from ⟨HLN.out, by rw [HLV.out]; exact HO4.out⟩)
          have HT := Lib.hid (HTU.out A6 (m + 1) c6 _ w4 HOL.out.labs (by omega) (fun i hi => (plain_ok (HPX.out _ (by
            rw [List.getD_eq_getElem?_getD, List.getElem?_eq_getElem (by rw [HLN.out]; exact hi)]
            exact List.getElem_mem _))).1))
          rw [← HVV.out] at HT
          go_wp2_with fail
          refine HT.out.mono ?_
          intro e w5 hgt
          obtain ⟨⟨yk, yn, ys⟩, ok, ⟨rfl, hg⟩, hy, hok⟩ : ∃ y : Lab, ∃ ok : Bool, ToldG (.tuple #[.agg #[.int .u8 y.k, .int .i64 y.n, .string y.s], .bool ok]) w4 e w5 ∧ (tupRead s.data.toList).getD noLab = y ∧ (tupRead s.data.toList).isSome = ok := ⟨_, _, hgt, rfl, rfl⟩
          have HG5 := Lib.hid (grown_join HGW4.out hg (.inr (by simp)))
          have HYO := Lib.hid (And.intro hy hok)
          obtain ⟨q0, q1, q2, f0, f1, f2, z0, z1, z2⟩ := (HBW4.out.grown hg (by simp)).three (.int .u8 yk) (.int .i64 yn) (.string ys)
          clear hg hgt hy hok
          dsimp only
          go_wp2_with fail
          exact bodyPost_ret (v := .tuple #[.agg #[.int .u8 yk, .int .i64 yn, .string ys], .bool ok]) (by simp [results, Tryz.results29, go_sem, z0, z1, z2]) rfl ⟨by rw [HYO.out.1, HYO.out.2]; rfl, grown_put (grown_put (grown_put HG5.out (.inr (Nat.le_refl _)) _) (.inr (Nat.le_refl _)) _) (.inr (Nat.le_refl _)) _⟩
        · obtain ⟨n1, n2⟩ := str_not (r := t) (by rw [HTD.out]; exact h41)
          have HCT := Lib.hid (fun w' => libCut_any 44 t w')
          rw [HTD.out] at HCT
          cases hb : behind 44 q with
          | none =>
            have HVV := Lib.hid (HRD.out.odd HML.out HPP.out h41 hb)
            rw [hb] at HCT
            have HC2 := Lib.hid (fun w' => show Calls Tryz.prog 28 #[.string t, .string ⟨#[44]⟩] w' (fun e w2 => e = .returned (.tuple #[.string t, .bool false]) ∧ w2 = w') from HCT.out w')
            clear hb h41 HCT
            obtain ⟨q0, q1, q2, f0, f1, f2, z0, z1, z2⟩ := HBW4.out.three (.int .u8 0) (.int .i64 0) (.string ⟨#[]⟩)
            go_wp2_with fail
            refine (HC2.out _).mono ?_
            rintro e w5 ⟨rfl, rfl⟩
            go_wp2_with fail
            exact bodyPost_ret (v := .tuple #[.agg #[.int .u8 0, .int .i64 0, .string ⟨#[]⟩], .bool false]) (by simp [results, Tryz.results29, go_sem, z0, z1, z2]) rfl (gaveTup_no HVV.out (grown_put (grown_put (grown_put HGW4.out (.inr (Nat.le_refl _)) _) (.inr (Nat.le_refl _)) _) (.inr (Nat.le_refl _)) _))
          | some u =>
            have HNX := Lib.hid (HRD.out.next HML.out HPP.out h41 hb)
            rw [hb] at HCT
            have HC2 := Lib.hid (fun w' => show Calls Tryz.prog 28 #[.string t, .string ⟨#[44]⟩] w' (fun e w2 => e = .returned (.tuple #[.string (txt u), .bool true]) ∧ w2 = w') from HCT.out w')
            have HZU := Lib.hid (show (txt u).size + 1 = t.size from behind_size (by rw [HTD.out]; exact hb))
            have HTU2 := Lib.hid (txt_data u)
            clear hb h41 HCT
            generalize txt u = uu at *
            go_wp2_with fail
            refine (HC2.out _).mono ?_
            rintro e w5 ⟨rfl, rfl⟩
            go_wp2_with fail
            go_roundw
            case rel => exact ⟨uu, l ++ [⟨ak, an, as'⟩], rfl, by have := HZ.out; have := HZU.out; omega, by rw [HLN.out, HLV.out]; exact HO4.out, by rw [HTU2.out]; exact HNX.out, HPX.out, HB4.out⟩
            case measure => simp [strOf]; have := HZ.out; have := HZU.out; omega
    · have d1 : decide ((m : Int) < 4) = false := by simp; omega
      have HVV := Lib.hid (HRD.out.full (by rw [HM.out]; omega))
      obtain ⟨q0, q1, q2, f0, f1, f2, z0, z1, z2⟩ := HBW.out.three (.int .u8 0) (.int .i64 0) (.string ⟨#[]⟩)
      go_wp2_with fail
      exact bodyPost_ret (v := .tuple #[.agg #[.int .u8 0, .int .i64 0, .string ⟨#[]⟩], .bool false]) (by simp [results, Tryz.results29, go_sem, z0, z1, z2]) rfl (gaveTup_no HVV.out (grown_put (grown_put (grown_put HGW.out (.inr (Nat.le_refl _)) _) (.inr (Nat.le_refl _)) _) (.inr (Nat.le_refl _)) _))
end Go.Proofs.YtblmnbaejfhagaaGreatDoor
