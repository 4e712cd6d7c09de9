/-
  Layer 5: the program's Right, Parts, All.
-/
import Derived.Test.YtblmnbaejfhagaaGreatDoorRight5
namespace Go.Proofs.YtblmnbaejfhagaaGreatDoor
open Go.ChangeShapes Go.WideShapes Go.ChangeAt Go.RowKit
set_option linter.unusedVariables false

theorem noS_facts : noS.toList = [] ∧ noS.toList.isEmpty = true ∧ noS.size = 0 := ⟨noS_list, by rw [noS_list]; rfl, rfl⟩
set_option maxRecDepth 100000 in
set_option maxHeartbeats 2000000 in
theorem ownRight_any (k n : Int) (s : ByteArray) (w : World) (hs : s.size ≤ 1048576) (h1 : -9223372036854775808 ≤ n) (h2 : n < 9223372036854775808) : Calls Tryz.prog 9 #[.agg #[.int .u8 k, .int .i64 n, .string s]] w (ToldG (.bool (rightE ⟨k, n, s⟩)) w) := by
  have HG := Lib.hid (World.grownBy_alloc w (.cells #[.int .u8 k, .int .i64 n, .string s] 27) none)
  by_cases hk0 : k = 0
  · subst hk0
    have HR := Lib.hid (right_zero n s)
    by_cases he : s = noS
    · subst he
      obtain ⟨d1, d2, d3⟩ := noS_facts
      rw [decide_eq_true rfl] at HR
      go_enter Tryz.func9, Tryz.ntmps9
      go_wp2_with fail
      go_ret
      exact toldG_eq (by rw [HR.out]; rfl) HG.out
    · obtain ⟨d1, d2⟩ := empty_no he
      rw [decide_eq_false he] at HR
      clear he
      go_enter Tryz.func9, Tryz.ntmps9
      go_wp2_with fail
      go_ret
      exact toldG_eq (by rw [HR.out]; rfl) HG.out
  · have d0 : (k == 0) = false := by simp [hk0]
    by_cases hk1 : k = 1
    · subst hk1
      have HR := Lib.hid (right_one n s)
      by_cases hn : n = 0
      · subst hn
        by_cases hl : s.size ≤ 32
        · have d3 : decide ((s.size : Int) ≤ 32) = true := by simp; omega
          rw [decide_eq_true rfl, decide_eq_true hl] at HR
          go_enter Tryz.func9, Tryz.ntmps9
          go_wp2_with fail
          go_ret
          exact toldG_eq (by rw [HR.out]; rfl) HG.out
        · have d3 : decide ((s.size : Int) ≤ 32) = false := by simp; omega
          rw [decide_eq_true rfl, decide_eq_false hl] at HR
          go_enter Tryz.func9, Tryz.ntmps9
          go_wp2_with fail
          go_ret
          exact toldG_eq (by rw [HR.out]; rfl) HG.out
      · have d3 : (n == 0) = false := by simp [hn]
        rw [decide_eq_false hn] at HR
        clear hn
        go_enter Tryz.func9, Tryz.ntmps9
        go_wp2_with fail
        go_ret
        exact toldG_eq (by rw [HR.out]; rfl) HG.out
    · have d1 : (k == 1) = false := by simp [hk1]
      by_cases hk2 : k = 2
      · subst hk2
        have HR := Lib.hid (right_two n s)
        by_cases hn1 : 1 ≤ n
        · have d2 : decide ((1 : Int) ≤ n) = true := by simp [hn1]
          by_cases hn4 : n ≤ 4
          · have d3 : decide (n ≤ (4 : Int)) = true := by simp [hn4]
            obtain ⟨m, rfl⟩ : ∃ m : Nat, n = m := ⟨n.toNat, by omega⟩
            rw [d2, d3, Int.toNat_natCast] at HR
            have HP := Lib.hid (fun w' => ownPacked_any s m w' hs (by omega))
            generalize packedE m s.data.toList = b at *
            clear hk0 hk1
            go_enter Tryz.func9, Tryz.ntmps9
            go_wp2_with fail
            refine (HP.out _).mono ?_
            rintro e w2 ⟨rfl, hg⟩
            have HG2 := Lib.hid (grown_join HG.out hg (.inr (by simp)))
            clear hg
            go_wp2_with fail
            go_ret
            exact toldG_eq (by rw [HR.out]; rfl) HG2.out
          · have d3 : decide (n ≤ (4 : Int)) = false := by simp; omega
            rw [d2, d3] at HR
            clear hk0 hk1
            go_enter Tryz.func9, Tryz.ntmps9
            go_wp2_with fail
            go_ret
            exact toldG_eq (by rw [HR.out]; rfl) HG.out
        · have d2 : decide ((1 : Int) ≤ n) = false := by simp; omega
          rw [d2] at HR
          clear hk0 hk1
          go_enter Tryz.func9, Tryz.ntmps9
          go_wp2_with fail
          go_ret
          exact toldG_eq (by rw [HR.out]; rfl) HG.out
      · have d2 : (k == 2) = false := by simp [hk2]
        have HR := Lib.hid (right_more (n := n) (s := s) hk0 hk1 hk2)
        clear hk0 hk1 hk2
        go_enter Tryz.func9, Tryz.ntmps9
        go_wp2_with fail
        go_ret
        exact toldG_eq (by rw [HR.out]; rfl) HG.out
theorem make_labs (m : Nat) (hm : m ≤ 4) : ∃ Z : Array Value, Z.size = m * 3 ∧ ∀ W : World, (Instr.makeSlice 30 (.int .i64 0) (.int .i64 (m : Int))).run Tryz.prog W = .ok (.slice (some ⟨W.heap.size, 0, none⟩) 0 m) (W.alloc (.cells Z 27)) := by
  obtain ⟨i0, hi, hz0, hz1, hz2⟩ := info_parts info_lab
  refine ⟨madeCells (Value.agg #[.int .u8 0, .int .i64 0, .string noS]).cells (m * i0.size), by rw [hz1]; simp [madeCells], fun W => ?_⟩
  have h := run_make (P := Tryz.prog) W 30 27 i0 _ Tryz.underlying30 hi hz0 .i64 .i64 0 (m : Int) (by omega) (by omega) (by rw [hz2]; omega) (by omega)
  simpa using h
theorem made_empty {w : World} {e : TypeId} {m : Nat} {Z : Array Value} (hm : m ≤ 4) (hZ : Z.size = m * 3) : (w.alloc (.cells Z e)).ownsRow w.heap.size e 3 (.slice (some ⟨w.heap.size, 0, none⟩) 0 m) 0 (labV []) :=
  ⟨rfl, .inr ⟨w.heap.size, m, Z, rfl, Nat.le_refl _, heap_alloc_new w _, Nat.zero_le _, by unfold maxLen; omega, hZ, by simp [labV]⟩⟩
set_option maxRecDepth 100000 in
set_option maxHeartbeats 4000000 in
theorem ownParts_any (k n : Int) (s : ByteArray) (w : World) (hs : s.size ≤ 1048576) (h1 : -9223372036854775808 ≤ n) (h2 : n < 9223372036854775808) : Calls Tryz.prog 13 #[.agg #[.int .u8 k, .int .i64 n, .string s]] w (PartsEnd 27 (partsE ⟨k, n, s⟩) w) := by
  have HRI := Lib.hid (fun w' => ownRight_any k n s w' hs h1 h2)
  obtain ⟨w1, hw1⟩ : ∃ w1, w1 = w.alloc (.cells #[.int .u8 k, .int .i64 n, .string s] 27) := ⟨_, rfl⟩
  have HG0 := Lib.hid (show w.grownBy w1 none by rw [hw1]; exact World.grownBy_alloc w _ none)
  have HBX := Lib.hid (show Box w1 w.heap.size 27 #[.int .u8 k, .int .i64 n, .string s] by rw [hw1]; exact Box.fresh w _ _)
  have HW1 := Lib.hid hw1
  clear hw1
  go_enter Tryz.func13, Tryz.ntmps13
  go_wp2_with fail
  rw [← HW1.out]
  refine (HRI.out _).mono ?_
  rintro e w2 ⟨rfl, hg⟩
  have HG2 := Lib.hid (grown_join HG0.out hg (.inr (by simp)))
  have HB2 := Lib.hid (HBX.out.grown hg (by simp))
  clear hg HG0 HBX
  cases hr : rightE ⟨k, n, s⟩
  · have HN : Hid (partsE ⟨k, n, s⟩ = none) := Lib.hid (by
      unfold rightE at hr
      cases hp : partsE ⟨k, n, s⟩ with
      | none => rfl
      | some _ => rw [hp] at hr; cases hr)
    clear hr
    go_wp2_with fail
    go_ret
    exact .inl ⟨HN.out, rfl, HG2.out⟩
  · obtain ⟨out, ho⟩ := Option.isSome_iff_exists.1 hr
    have HO := Lib.hid ho
    clear hr
    by_cases hk : k = 2
    · subst hk
      have hnl : n = out.length := by have := parts_tuple (a := ⟨2, n, s⟩) rfl ho; injection this
      have hpl : parseL 4 s.data.toList = some out := by
        rw [parts_two] at ho
        cases hp : parseL 4 s.data.toList with
        | none => rw [hp] at ho; cases ho
        | some o =>
          rw [hp] at ho
          dsimp only at ho
          split at ho
          · injection ho with ho; rw [ho]
          · cases ho
      have HL4 := parts_le ho
      have HPL := Lib.hid hpl
      have hn0 : n = ((out.length : Nat) : Int) := hnl
      generalize hm : out.length = m at *
      have HM := Lib.hid hm
      subst hn0
      clear hnl ho hpl hm
      obtain ⟨Z, hZ, hmk⟩ := make_labs m HL4
      have HIN := Lib.hid (info_parts info_lab)
      obtain ⟨q0, q1, q2⟩ := cells3 HB2.out
      have HGM := Lib.hid (grown_alloc HG2.out (.cells Z 27))
      have HOM := Lib.hid (made_empty (w := w2) (e := 27) HL4 hZ)
      have HSZ := Lib.hid HG2.out.size
      have HM0 : Hid (0 < m) := Lib.hid (by
        rw [← HM.out]
        have h := HO.out
        rw [parts_two, HPL.out] at h
        dsimp only at h
        cases out with
        | nil => rw [if_neg (by simp)] at h; cases h
        | cons _ _ => simp)
      have HZ2 := Lib.hid (cells3 (HB2.out.alloc (.cells Z 27))).2.2
      clear hZ q2
      go_upto_region 5 with fail
      go_upto_region 6 with fail
      obtain ⟨w3, hw3⟩ : ∃ w3, w3 = w2.alloc (.cells Z 27) := ⟨_, rfl⟩
      rw [← hw3]
      rw [← hw3] at HZ2 HOM HGM
      have HW3 := Lib.hid hw3
      have z2 := HZ2.out
      clear hw3 hmk q1 q0
      go_wp2_with fail
      go_loopw [3, 4] (fun v3 v4 wr => ∃ (o : List Lab) (r : ByteArray), v4 = .string r ∧ r.size ≤ 1048576 ∧ wr.ownsRow w2.heap.size 27 3 v3 o.length (labV o) ∧ Left s.data.toList o r.data.toList ∧ w2.grownBy wr none) (fun _ v4 _ => strOf v4)
      case atStart => exact ⟨[], s, rfl, hs, HOM.out, Left.start _, by rw [HW3.out]; exact World.grownBy_alloc w2 _ none⟩
      case round =>
        obtain ⟨o, r, rfl, hr, ho, hl, hg⟩ := hrel
        have HOW := Lib.hid ho
        have HL := Lib.hid hl
        have HG := Lib.hid hg
        obtain ⟨A3, c3, hv3⟩ := own_slice3 ho
        subst hv3
        clear ho hl
        have hte : r.toList = r.data.toList := Lib.toList_data r
        by_cases he : r.data.toList = []
        · have d1 : r.toList = [] := by rw [hte]; exact he
          have d2 : r.toList.isEmpty = true := by rw [d1]; rfl
          have HE : Hid (o = out) := Lib.hid (by
            have h := HL.out
            rw [he] at h
            have h2 := h.done
            rw [HPL.out] at h2
            injection h2 with h2; exact h2.symm)
          clear he hte
          have hol : 0 < o.length := by rw [HE.out, HM.out]; exact HM0.out
          obtain ⟨g, rfl, hbg, _, _, _⟩ := own_form HOW.out hol
          go_wp2_with fail
          go_ret
          exact .inr ⟨o, ⟨g, 0, none⟩, c3, by rw [HE.out]; exact HO.out, rfl, ⟨rfl, own_lower HOW.out HG2.out.size⟩, grown_join HG2.out HG.out (.inr (by simp))⟩
        · have d1 : ¬ r.toList = [] := by rw [hte]; exact he
          have d2 : r.toList.isEmpty = false := by
            cases h : r.toList with
            | nil => exact absurd h d1
            | cons _ _ => rfl
          obtain ⟨ho4, ⟨ak, an, as'⟩, q, hc⟩ := HL.out.on HPL.out he
          have HC := Lib.hid (fun w' => ownCut_some w' hr hc)
          have HLM := Lib.hid (HL.out.more ho4 hc)
          have HZ := Lib.hid (cut_size hc)
          have HTX := Lib.hid (txt_data q)
          clear he hte hc
          generalize txt q = t at *
          go_wp2_with fail
          refine (HC.out _).mono ?_
          rintro e w4 ⟨rfl, hg4⟩
          have HG4 := Lib.hid (grown_join HG.out hg4 (.inr (by simp)))
          have HOW4 := Lib.hid (own_grow HOW.out hg4)
          clear hg hg4 HOW
          have hsz4 := HG4.out.size
          generalize hxo : o.length = x at *
          have HXO := Lib.hid hxo
          clear hxo
          go_upto_region 9 with fail
          obtain ⟨w5, hw5⟩ : ∃ w5, w5 = w4.alloc (.cells #[.int .u8 ak, .int .i64 an, .string as'] 27) := ⟨_, rfl⟩
          rw [← hw5]
          obtain ⟨b0, b1, b2⟩ := cells3 (show Box w5 w4.heap.size 27 #[.int .u8 ak, .int .i64 an, .string as'] by rw [hw5]; exact Box.fresh _ _ _)
          have HOW5 := Lib.hid (show w5.ownsRow w2.heap.size 27 3 (.slice A3 x c3) x (labV o) by rw [hw5]; exact HOW4.out.alloc _)
          have HGW5 := Lib.hid (show w2.grownBy w5 none by rw [hw5]; exact grown_alloc HG4.out _)
          have hsz5 := HGW5.out.size
          obtain ⟨i0, hi, hz0, hz1, hz2⟩ := HIN.out
          clear hw5 hsz4
          go_wp2_with (at_builtin; refine wpList_append_own_at _ rfl (.tmp 29) (.tmp 31) _ rfl w2.heap.size 27 i0 _ 3 32 Tryz.underlying30 hi hz0 hz1 hz2 rfl (by omega) (.slice A3 x c3) x _ rfl (HOW5.out.alloc _) ⟨_, 0, none⟩ 1 1 [.int .u8 ak, .int .i64 an, .string as'] rfl rfl (new_cells3 _ _ _ _ _) (three_one _ _ _) (by simp only [maxLen]; omega) (by omega) (by simp; omega) ?_; intro v7' w6 hown6 hg6 _ hat6; have HO6 := Lib.hid hown6; have HG6 := Lib.hid hg6; clear hown6 hg6 hat6)
          go_roundw
          case rel => exact ⟨o ++ [⟨ak, an, as'⟩], t, rfl, by have := HZ.out; omega, by rw [List.length_append, HXO.out, labV_snoc]; exact HO6.out, by rw [HTX.out]; exact HLM.out, grown_join (grown_alloc HGW5.out _) HG6.out (.inr fun y hy => (HOW5.out.lt y hy).1)⟩
          case measure => simp [strOf]; have := HZ.out; omega
    · have hkk : (k != 2) = true := by simp [hk]
      have HS : Hid (out = [⟨k, n, s⟩]) := Lib.hid (parts_simple (a := ⟨k, n, s⟩) hk ho).2
      obtain ⟨q0, q1, q2⟩ := cells3 HB2.out
      clear hk ho
      go_wp2_with fail
      go_ret
      exact .inr ⟨[⟨k, n, s⟩], ⟨w2.heap.size, 0, none⟩, 1, by rw [HO.out, HS.out], rfl, own_one HG2.out.size, grown_alloc HG2.out _⟩
/-- what Parts answers, its slice by cases. -/
theorem ownPartsG_any (k n : Int) (s : ByteArray) (w : World) (hs : s.size ≤ 1048576) (h1 : -9223372036854775808 ≤ n) (h2 : n < 9223372036854775808) : Calls Tryz.prog 13 #[.agg #[.int .u8 k, .int .i64 n, .string s]] w (PartsG 27 (partsE ⟨k, n, s⟩) w) :=
  (ownParts_any k n s w hs h1 h2).mono fun _ _ h => h.told
theorem intSays : IntSays := fun n w _ _ => (ownInt_any n w).mono fun e w' ⟨h1, h2⟩ => ⟨h1, by rw [h2]; exact World.grownBy_alloc w _ none⟩
theorem textSays : TextSays := fun s w _ => (ownText_any s w).mono fun e w' ⟨h1, h2⟩ => ⟨h1, by rw [h2]; exact World.grownBy_alloc w _ none⟩
theorem rightSays : RightSays := fun a w h => ownRight_any a.k a.n a.s w h.2.2.2.2 h.2.2.1 h.2.2.2.1
theorem partsSays : PartsSays := fun a w h => ownPartsG_any a.k a.n a.s w h.2.2.2.2 h.2.2.1 h.2.2.2.1
end Go.Proofs.YtblmnbaejfhagaaGreatDoor
