/-
  Layer 5: the program's byParts, Compare.
-/
import Derived.Test.YtblmnbaejfhagaaGreatDoorCmpO5
namespace Go.Proofs.YtblmnbaejfhagaaGreatDoor
open Go.ChangeShapes Go.WideShapes Go.ChangeAt Go.RowKit
set_option linter.unusedVariables false

theorem parse_pop {f : Nat} {l : List UInt8} {X : List Lab} (h : parseL f l = some X) (hl : l ≠ []) : ∃ g a r X', f = g + 1 ∧ cutE l = some (a, r) ∧ parseL g r = some X' ∧ X = a :: X' := by
  cases f with
  | zero =>
    cases l with
    | nil => exact absurd rfl hl
    | cons c t => cases h
  | succ g =>
    rw [parse_cut g l hl] at h
    cases hc : cutE l with
    | none => rw [hc] at h; cases h
    | some p =>
      rw [hc] at h
      obtain ⟨X', h1, h2⟩ := map_some h
      exact ⟨g, p.1, p.2, X', rfl, rfl, h1, h2.symm⟩
theorem parse_end {f : Nat} {X : List Lab} (h : parseL f [] = some X) : X = [] := by
  cases f <;> (injection h with h; exact h.symm)
theorem str_empty {r : ByteArray} (h : r.data.toList = []) : r.toList = [] ∧ r.toList.isEmpty = true ∧ r.size = 0 := by
  have e : r.toList = [] := by rw [Lib.toList_data]; exact h
  refine ⟨e, by rw [e]; rfl, ?_⟩
  rw [← data_size, h]; rfl
theorem str_full {r : ByteArray} (h : ¬ r.data.toList = []) : ¬ r.toList = [] ∧ r.toList.isEmpty = false ∧ 0 < r.size := by
  have e : ¬ r.toList = [] := by rw [Lib.toList_data]; exact h
  refine ⟨e, ?_, ?_⟩
  · cases hl : r.toList with
    | nil => exact absurd hl e
    | cons _ _ => rfl
  · rw [← data_size]
    cases hl : r.data.toList with
    | nil => exact absurd hl h
    | cons _ _ => simp
set_option maxRecDepth 100000 in
set_option maxHeartbeats 4000000 in
theorem byParts_any (s t : ByteArray) (X Y : List Lab) (w : World) (hs : s.size ≤ 1048576) (ht : t.size ≤ 1048576) (hX : parseL 4 s.data.toList = some X) (hY : parseL 4 t.data.toList = some Y) :
    Calls Tryz.prog 33 #[.string s, .string t] w (ToldG (.int .i64 (listC simC X Y)) w) := by
  have HX := Lib.hid hX
  have HY := Lib.hid hY
  clear hX hY
  go_enter Tryz.func33, Tryz.ntmps33
  go_wp2_with fail
  go_loopw [0, 1] (fun v0 v1 wr => ∃ (f g : Nat) (r q : ByteArray) (X' Y' : List Lab), v0 = .string r ∧ v1 = .string q ∧ r.size ≤ 1048576 ∧ q.size ≤ 1048576 ∧ parseL f r.data.toList = some X' ∧ parseL g q.data.toList = some Y' ∧ listC simC X Y = listC simC X' Y' ∧ w.grownBy wr none) (fun v0 _ _ => strOf v0)
  case atStart => exact ⟨4, 4, s, t, X, Y, rfl, rfl, hs, ht, HX.out, HY.out, rfl, grown_refl _ _⟩
  case round =>
    obtain ⟨f, g, r, q, X', Y', rfl, rfl, hr, hq, hp1, hp2, hl, hg⟩ := hrel
    have HG := Lib.hid hg
    have HL := Lib.hid hl
    clear hg hl
    by_cases he : r.data.toList = []
    · obtain ⟨d1, d2, d3⟩ := str_empty he
      rw [he] at hp1
      have hx := parse_end hp1
      subst hx
      clear hp1 he
      by_cases he2 : q.data.toList = []
      · obtain ⟨b1, b2, b3⟩ := str_empty he2
        rw [he2] at hp2
        have hy := parse_end hp2
        subst hy
        have HV := Lib.hid (show listC simC X Y = 0 from HL.out)
        clear hp2 he2 HL
        have HC := Lib.hid (fun w' => cmpInt_any 0 0 w')
        rw [intC_eq] at HC
        go_wp2_with fail
        refine (HC.out _).mono ?_
        rintro e w2 ⟨rfl, rfl⟩
        go_wp2_with fail
        go_ret
        exact toldG_eq (by rw [HV.out]; rfl) HG.out
      · obtain ⟨b1, b2, b3⟩ := str_full he2
        obtain ⟨_, a, _, Y'', _, _, _, rfl⟩ := parse_pop hp2 he2
        have HV := Lib.hid (show listC simC X Y = -1 from HL.out)
        clear hp2 he2 HL
        have HC := Lib.hid (fun w' => cmpInt_any 0 (q.size : Int) w')
        rw [intC_lt (by omega)] at HC
        go_wp2_with fail
        refine (HC.out _).mono ?_
        rintro e w2 ⟨rfl, rfl⟩
        go_wp2_with fail
        go_ret
        exact toldG_eq (by rw [HV.out]; rfl) HG.out
    · obtain ⟨d1, d2, d3⟩ := str_full he
      obtain ⟨f', ⟨ak, an, as'⟩, r', X'', rfl, hc1, hp1', rfl⟩ := parse_pop hp1 he
      clear hp1 he
      by_cases he2 : q.data.toList = []
      · obtain ⟨b1, b2, b3⟩ := str_empty he2
        rw [he2] at hp2
        have hy := parse_end hp2
        subst hy
        have HV := Lib.hid (show listC simC X Y = 1 from HL.out)
        clear hp2 he2 HL hc1 hp1'
        have HC := Lib.hid (fun w' => cmpInt_any (r.size : Int) 0 w')
        rw [intC_gt (by omega)] at HC
        go_wp2_with fail
        refine (HC.out _).mono ?_
        rintro e w2 ⟨rfl, rfl⟩
        go_wp2_with fail
        go_ret
        exact toldG_eq (by rw [HV.out]; rfl) HG.out
      · obtain ⟨b1, b2, b3⟩ := str_full he2
        obtain ⟨g', ⟨bk, bn, bs⟩, q', Y'', rfl, hc2, hp2', rfl⟩ := parse_pop hp2 he2
        have HC1 := Lib.hid (fun w' => ownCut_some w' hr hc1)
        have HC2 := Lib.hid (fun w' => ownCut_some w' hq hc2)
        have HZ1 := Lib.hid (cut_size hc1)
        have HZ2 := Lib.hid (cut_size hc2)
        have HP1 := Lib.hid (show parseL f' (txt r').data.toList = some X'' by rw [txt_data]; exact hp1')
        have HP2 := Lib.hid (show parseL g' (txt q').data.toList = some Y'' by rw [txt_data]; exact hp2')
        have HST := Lib.hid (show listC simC (⟨ak, an, as'⟩ :: X'') (⟨bk, bn, bs⟩ :: Y'') = if simC ⟨ak, an, as'⟩ ⟨bk, bn, bs⟩ = 0 then listC simC X'' Y'' else simC ⟨ak, an, as'⟩ ⟨bk, bn, bs⟩ from rfl)
        have HBF := Lib.hid (fun w' => byFields_any ak an bk bn as' bs w')
        have HSA := Lib.hid (tot_sim.same ⟨ak, an, as'⟩ ⟨bk, bn, bs⟩ trivial trivial)
        clear hp2 he2 hc1 hc2 hp1' hp2'
        generalize txt r' = r2 at *
        generalize txt q' = q2 at *
        go_wp2_with fail
        refine (HC1.out _).mono ?_
        rintro e w2 ⟨rfl, hg⟩
        have HG2 := Lib.hid (grown_join HG.out hg (.inr (by simp)))
        clear hg
        go_wp2_with fail
        refine (HC2.out _).mono ?_
        rintro e w3 ⟨rfl, hg⟩
        have HG3 := Lib.hid (grown_join (grown_alloc HG2.out _) hg (.inr (by simp)))
        have HBA := Lib.hid ((Box.fresh w2 27 #[.int .u8 ak, .int .i64 an, .string as']).grown hg (by simp))
        clear hg
        go_upto_region 4 with fail
        obtain ⟨W, hW⟩ : ∃ W, W = w3.alloc (.cells #[.int .u8 bk, .int .i64 bn, .string bs] 27) := ⟨_, rfl⟩
        rw [← hW]
        obtain ⟨a0, a1, a2, c0, c1, c2⟩ := six_box (w := W) (by rw [hW]; exact HBA.out.alloc _) (show Box W w3.heap.size 27 #[.int .u8 bk, .int .i64 bn, .string bs] by rw [hW]; exact Box.fresh _ _ _)
        have HG4 := Lib.hid (show w.grownBy W none by rw [hW]; exact grown_alloc HG3.out _)
        clear hW
        have hn := neq_lab ⟨ak, an, as'⟩ ⟨bk, bn, bs⟩
        by_cases heq : (⟨ak, an, as'⟩ : Lab) = ⟨bk, bn, bs⟩
        · rw [show eqlL ⟨ak, an, as'⟩ ⟨bk, bn, bs⟩ = true from decide_eq_true heq] at hn
          have HV := Lib.hid (show listC simC X Y = listC simC X'' Y'' by rw [HL.out, HST.out, if_pos (HSA.out.2 heq)])
          dsimp only [Bool.not_true] at hn
          clear heq
          go_wp2_with fail
          go_roundw
          case rel => exact ⟨f', g', r2, q2, X'', Y'', rfl, rfl, by have := HZ1.out; omega, by have := HZ2.out; omega, HP1.out, HP2.out, HV.out, HG4.out⟩
          case measure => simp [strOf]; have := HZ1.out; omega
        · rw [show eqlL ⟨ak, an, as'⟩ ⟨bk, bn, bs⟩ = false from decide_eq_false heq] at hn
          have HV := Lib.hid (show listC simC X Y = simC ⟨ak, an, as'⟩ ⟨bk, bn, bs⟩ by rw [HL.out, HST.out, if_neg (fun h => heq (HSA.out.1 h))])
          dsimp only [Bool.not_false] at hn
          clear heq
          go_wp2_with fail
          refine (HBF.out _).mono ?_
          rintro e w5 ⟨rfl, hg⟩
          have HG5 := Lib.hid (grown_join HG4.out hg (.inr (by simp)))
          clear hg
          go_wp2_with fail
          go_ret
          exact toldG_eq (by rw [HV.out]; rfl) HG5.out
set_option maxRecDepth 100000 in
set_option maxHeartbeats 4000000 in
theorem ownCompare_any (ak an bk bn : Int) (as' bs : ByteArray) (w : World) (hsa : as'.size ≤ 1048576) (hsb : bs.size ≤ 1048576) (ha1 : -9223372036854775808 ≤ an) (ha2 : an < 9223372036854775808) (hb1 : -9223372036854775808 ≤ bn) (hb2 : bn < 9223372036854775808) :
    Calls Tryz.prog 23 #[.agg #[.int .u8 ak, .int .i64 an, .string as'], .agg #[.int .u8 bk, .int .i64 bn, .string bs]] w (ToldG (.int .i64 (cmpE ⟨ak, an, as'⟩ ⟨bk, bn, bs⟩)) w) := by
  have HRA := Lib.hid (fun w' => ownRight_any ak an as' w' hsa ha1 ha2)
  have HRB := Lib.hid (fun w' => ownRight_any bk bn bs w' hsb hb1 hb2)
  have HBF := Lib.hid (fun w' => byFields_any ak an bk bn as' bs w')
  have HBP := Lib.hid (fun X Y w' h1 h2 => byParts_any as' bs X Y w' hsa hsb h1 h2)
  have HSM := Lib.hid (tot_cmp.same ⟨ak, an, as'⟩ ⟨bk, bn, bs⟩ trivial trivial)
  clear hsa hsb ha1 ha2 hb1 hb2
  obtain ⟨W, hW⟩ : ∃ W, W = (w.alloc (.cells #[.int .u8 ak, .int .i64 an, .string as'] 27)).alloc (.cells #[.int .u8 bk, .int .i64 bn, .string bs] 27) := ⟨_, rfl⟩
  have HG0 := Lib.hid (show w.grownBy W none by rw [hW]; exact grown_alloc (World.grownBy_alloc w _ none) _)
  have HBA := Lib.hid (show Box W w.heap.size 27 #[.int .u8 ak, .int .i64 an, .string as'] by rw [hW]; exact (Box.fresh w _ _).alloc _)
  have HBB := Lib.hid (show Box W (w.heap.size + 1) 27 #[.int .u8 bk, .int .i64 bn, .string bs] by
    have h1 := Box.fresh (w.alloc (.cells #[.int .u8 ak, .int .i64 an, .string as'] 27)) 27 #[.int .u8 bk, .int .i64 bn, .string bs]
    rw [hW]
    simpa using h1)
  have HW := Lib.hid hW
  clear hW
  go_enter Tryz.func23, Tryz.ntmps23
  go_upto_region 1 with fail
  rw [← HW.out]
  obtain ⟨a0, a1, a2, b0, b1, b2⟩ := six_box HBA.out HBB.out
  have hn := eql_lab ⟨ak, an, as'⟩ ⟨bk, bn, bs⟩
  by_cases heq : (⟨ak, an, as'⟩ : Lab) = ⟨bk, bn, bs⟩
  · rw [show eqlL ⟨ak, an, as'⟩ ⟨bk, bn, bs⟩ = true from decide_eq_true heq] at hn
    have HV := Lib.hid (HSM.out.2 heq)
    dsimp only at hn
    clear heq
    go_wp2_with fail
    go_ret
    exact toldG_eq (by rw [HV.out]; rfl) HG0.out
  · rw [show eqlL ⟨ak, an, as'⟩ ⟨bk, bn, bs⟩ = false from decide_eq_false heq] at hn
    dsimp only at hn
    clear heq
    go_upto_region 3 with fail
    have SIX := Lib.hid (six_box HBA.out HBB.out)
    go_cut [5, 6] (fun v5 v6 wc => v5 = .bool (rightE ⟨ak, an, as'⟩) ∧ v6 = .bool (rightE ⟨bk, bn, bs⟩) ∧ W.grownBy wc none)
    case first =>
      have HGC := Lib.hid (grown_refl W none)
      go_region_held3 (fun w' => w'.cell? ⟨w.heap.size, 0, none⟩ = some (.int .u8 ak) ∧ w'.cell? ⟨w.heap.size, 1, none⟩ = some (.int .i64 an) ∧ w'.cell? ⟨w.heap.size, 2, none⟩ = some (.string as') ∧ w'.cell? ⟨w.heap.size + 1, 0, none⟩ = some (.int .u8 bk) ∧ w'.cell? ⟨w.heap.size + 1, 1, none⟩ = some (.int .i64 bn) ∧ w'.cell? ⟨w.heap.size + 1, 2, none⟩ = some (.string bs)) (first | exact KEEP.out | exact SIX.out) (first
        | (go_at_call 9; (with_reducible refine (HRA.out _).mono ?_); rintro e w2 ⟨rfl, hg2⟩; have HGC := Lib.hid (grown_join (grown_drewN HGC.out 1) hg2 (.inr (by simp))); clear hg2; have KEEP := Lib.hid (six_box (HBA.out.grown HGC.out (by simp)) (HBB.out.grown HGC.out (by simp))))
        | (go_at_call 9; (with_reducible refine (HRB.out _).mono ?_); rintro e w2 ⟨rfl, hg2⟩; have HGC := Lib.hid (grown_join HGC.out hg2 (.inr (by simp))); clear hg2; have KEEP := Lib.hid (six_box (HBA.out.grown HGC.out (by simp)) (HBB.out.grown HGC.out (by simp)))))
      all_goals go_wp2
      all_goals go_meet
      all_goals exact ⟨rfl, rfl, HGC.out⟩
    case rest =>
      obtain ⟨rfl, rfl, hgc⟩ := hcut
      have HG1 := Lib.hid (grown_join HG0.out hgc (.inr (by simp)))
      obtain ⟨a0, a1, a2, b0, b1, b2⟩ := six_box (HBA.out.grown hgc (by simp)) (HBB.out.grown hgc (by simp))
      clear hgc
      cases hra : rightE ⟨ak, an, as'⟩ <;> cases hrb : rightE ⟨bk, bn, bs⟩
      · have HC : Hid (cmpE ⟨ak, an, as'⟩ ⟨bk, bn, bs⟩ = simC ⟨ak, an, as'⟩ ⟨bk, bn, bs⟩) := Lib.hid (by unfold cmpE; rw [hra, hrb]; simp)
        clear hra hrb
        go_wp2_with fail
        refine (HBF.out _).mono ?_
        rintro e w5 ⟨rfl, hg⟩
        have HG5 := Lib.hid (grown_join HG1.out hg (.inr (by simp)))
        clear hg
        go_wp2_with fail
        go_ret
        exact toldG_eq (by rw [HC.out]; rfl) HG5.out
      · have HC : Hid (cmpE ⟨ak, an, as'⟩ ⟨bk, bn, bs⟩ = 1) := Lib.hid (by unfold cmpE; rw [hra, hrb]; simp)
        clear hra hrb
        go_wp2_with fail
        go_ret
        exact toldG_eq (by rw [HC.out]; rfl) HG1.out
      · have HC : Hid (cmpE ⟨ak, an, as'⟩ ⟨bk, bn, bs⟩ = -1) := Lib.hid (by unfold cmpE; rw [hra, hrb]; simp)
        clear hra hrb
        go_wp2_with fail
        go_ret
        exact toldG_eq (by rw [HC.out]; rfl) HG1.out
      · by_cases hk : ak = 2 ∧ bk = 2
        · obtain ⟨rfl, rfl⟩ := hk
          have hpp : ∀ (n : Int) (s : ByteArray), rightE ⟨2, n, s⟩ = true → ∃ X, parseL 4 s.data.toList = some X ∧ partsD ⟨2, n, s⟩ = X := fun n s h => by
            obtain ⟨X, ho⟩ := Option.isSome_iff_exists.1 h
            refine ⟨X, ?_, by unfold partsD; rw [ho]; rfl⟩
            rw [parts_two] at ho
            cases hp : parseL 4 s.data.toList with
            | none => rw [hp] at ho; cases ho
            | some o =>
              rw [hp] at ho
              dsimp only at ho
              split at ho
              · injection ho with ho; rw [ho]
              · cases ho
          obtain ⟨X, hX, hXd⟩ := hpp an as' hra
          obtain ⟨Y, hY, hYd⟩ := hpp bn bs hrb
          have HC : Hid (cmpE ⟨2, an, as'⟩ ⟨2, bn, bs⟩ = listC simC X Y) := Lib.hid (by
            unfold cmpE
            rw [if_neg (by rw [hra, hrb]; simp), if_neg (by rw [hra, hrb]; simp), if_neg (by rw [hra]; simp), hXd, hYd])
          have HB := Lib.hid (fun w' => HBP.out X Y w' hX hY)
          clear hra hrb hpp hX hY hXd hYd HBP
          go_wp2_with fail
          refine (HB.out _).mono ?_
          rintro e w5 ⟨rfl, hg⟩
          have HG5 := Lib.hid (grown_join HG1.out hg (.inr (by simp)))
          clear hg
          go_wp2_with fail
          go_ret
          exact toldG_eq (by rw [HC.out]; rfl) HG5.out
        · have HC : Hid (cmpE ⟨ak, an, as'⟩ ⟨bk, bn, bs⟩ = simC ⟨ak, an, as'⟩ ⟨bk, bn, bs⟩) := Lib.hid (by
            unfold cmpE
            rw [if_neg (by rw [hra, hrb]; simp), if_neg (by rw [hra, hrb]; simp), if_pos (by
              by_cases h1 : ak = 2
              · exact .inr (.inr (fun h => hk ⟨h1, h⟩))
              · exact .inr (.inl h1))])
          clear hra hrb
          by_cases h1 : ak = 2
          · have d1 : (ak == 2) = true := by simp [h1]
            have d2 : (bk == 2) = false := by
              have : bk ≠ 2 := fun h => hk ⟨h1, h⟩
              simp [this]
            clear hk h1
            go_wp2_with fail
            refine (HBF.out _).mono ?_
            rintro e w5 ⟨rfl, hg⟩
            have HG5 := Lib.hid (grown_join HG1.out hg (.inr (by simp)))
            clear hg
            go_wp2_with fail
            go_ret
            exact toldG_eq (by rw [HC.out]; rfl) HG5.out
          · have d1 : (ak == 2) = false := by simp [h1]
            clear hk h1
            go_wp2_with fail
            refine (HBF.out _).mono ?_
            rintro e w5 ⟨rfl, hg⟩
            have HG5 := Lib.hid (grown_join HG1.out hg (.inr (by simp)))
            clear hg
            go_wp2_with fail
            go_ret
            exact toldG_eq (by rw [HC.out]; rfl) HG5.out
theorem compareSays : CompareSays := fun a b w ha hb => ownCompare_any a.k a.n b.k b.n a.s b.s w ha.2.2.2.2 hb.2.2.2.2 ha.2.2.1 ha.2.2.2.1 hb.2.2.1 hb.2.2.2.1
end Go.Proofs.YtblmnbaejfhagaaGreatDoor
