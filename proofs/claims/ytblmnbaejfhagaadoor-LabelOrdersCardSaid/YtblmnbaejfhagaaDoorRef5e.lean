/-
  Layer 5: the reference's Parts, Right, Compare.
-/
import Derived.Test.YtblmnbaejfhagaaDoorRef5d
import Derived.Deep.RegionHeld3
import Derived.Deep.DeepCutAuto
namespace Go.Proofs.YtblmnbaejfhagaaDoor
open Go.ChangeShapes Go.WideShapes Go.ChangeAt Go.RowKit
set_option linter.unusedVariables false

/-- the slice at A tells o: nil, or the parts. -/
def PartsV (e : TypeId) (o : Option (List Lab)) (base : Nat) (A : Option Addr) (n c : Nat) (w : World) : Prop :=
  (o = none ∧ A = none ∧ n = 0 ∧ c = 0) ∨ ∃ out, o = some out ∧ n = out.length ∧ A.isSome = true ∧ OwnL w base e A n c out
def PartsG (e : TypeId) (o : Option (List Lab)) (w : World) (en : Ending) (w' : World) : Prop := ∃ A n c, en = .returned (.slice A n c) ∧ PartsV e o w.heap.size A n c w' ∧ w.grownBy w' none
theorem PartsEnd.told {e : TypeId} {o : Option (List Lab)} {w w' : World} {en : Ending} (h : PartsEnd e o w en w') : PartsG e o w en w' := by
  rcases h with ⟨rfl, rfl, hg⟩ | ⟨out, A, c, rfl, rfl, ho, hg⟩
  · exact ⟨_, _, _, rfl, .inl ⟨rfl, rfl, rfl, rfl⟩, hg⟩
  · exact ⟨_, _, _, rfl, .inr ⟨out, rfl, rfl, rfl, ho⟩, hg⟩
theorem PartsV.grow {e : TypeId} {o : Option (List Lab)} {base n c : Nat} {A : Option Addr} {w w' : World} (h : PartsV e o base A n c w) (hg : w.grownBy w' none) : PartsV e o base A n c w' := by
  rcases h with h | ⟨out, h1, h2, h3, h4⟩
  · exact .inl h
  · exact .inr ⟨out, h1, h2, h3, h4.grow hg⟩
theorem ref5Parts_any (k n : Int) (s : ByteArray) (w : World) (hs : s.size ≤ 1048576) : Calls Tryd.prog 18 #[.agg #[.int .u8 k, .int .i64 n, .string s]] w (PartsG 23 (partsE ⟨k, n, s⟩) w) := by
  by_cases hk : k = 2
  · subst hk
    exact (ref5Parts_tuple n s w hs).mono fun _ _ h => h.told
  · exact (ref5Parts_plain k n s w hs hk).mono fun _ _ h => h.told
theorem neq_nil_rlab (A : Option Addr) (n c : Nat) (w : World) : (binOp .neq 25 (.slice A n c) (.slice none 0 0)).run Tryd.prog w = .ok (.bool A.isSome) w := by
  rw [run_neq_slice_nil_any w _ _ A n c 0 0 Tryd.underlying25]
  cases A <;> rfl
theorem eql_nil_rlab (A : Option Addr) (n c : Nat) (w : World) : (binOp .eql 25 (.slice A n c) (.slice none 0 0)).run Tryd.prog w = .ok (.bool A.isNone) w :=
  Lib.run_eql_slice_nil w 25 23 A n c 0 0 Tryd.underlying25
theorem PartsV.right {e : TypeId} {a : Lab} {base n c : Nat} {A : Option Addr} {w : World} (h : PartsV e (partsE a) base A n c w) : A.isSome = rightE a := by
  unfold rightE
  rcases h with ⟨h1, rfl, _, _⟩ | ⟨out, h1, _, h3, _⟩
  · rw [h1]; rfl
  · rw [h1]
    cases A with
    | none => cases h3
    | some _ => rfl
/-- what stands behind the two calls of Parts. -/
def Both5 (a b : Lab) (w : World) (v5 v6 : Value) (w' : World) : Prop :=
  ∃ A n c A' n' c', v5 = .slice A n c ∧ v6 = .slice A' n' c' ∧ PartsV 23 (partsE a) w.heap.size A n c w' ∧ PartsV 23 (partsE b) w.heap.size A' n' c' w' ∧ w.grownBy w' none
theorem PartsV.lower {e : TypeId} {o : Option (List Lab)} {base B n c : Nat} {A : Option Addr} {w : World} (h : PartsV e o base A n c w) (hb : B ≤ base) : PartsV e o B A n c w := by
  rcases h with h | ⟨out, h1, h2, h3, h4⟩
  · exact .inl h
  · exact .inr ⟨out, h1, h2, h3, h4.lower hb⟩
theorem cells3 {w : World} {g : Nat} {t : TypeId} {u v x : Value} (h : Box w g t #[u, v, x]) : w.cell? ⟨g, 0, none⟩ = some u ∧ w.cell? ⟨g, 1, none⟩ = some v ∧ w.cell? ⟨g, 2, none⟩ = some x := ⟨h.get 0, h.get 1, h.get 2⟩
theorem keep3 {w w' : World} {g : Nat} {t : TypeId} {u v x : Value} (h : Box w g t #[u, v, x]) (hg : w.grownBy w' none) : w'.cell? ⟨g, 0, none⟩ = some u ∧ w'.cell? ⟨g, 1, none⟩ = some v ∧ w'.cell? ⟨g, 2, none⟩ = some x := cells3 (h.grown hg (by simp))
theorem parse_le : ∀ (f : Nat) (l : List UInt8) (out : List Lab), parseL f l = some out → out.length ≤ f
  | _, [], out, h => by
    have : out = [] := by cases ‹Nat› <;> (simp [parseL] at h; exact h)
    subst this; exact Nat.zero_le _
  | 0, _ :: _, out, h => by simp [parseL] at h
  | f + 1, c :: t, out, h => by
    rw [parse_step] at h
    split at h
    · cases hp : parseL f (t.drop 8) with
      | none => rw [hp] at h; simp at h
      | some o =>
        rw [hp] at h
        simp at h
        subst h
        have := parse_le f _ o hp
        simp; omega
    · cases t with
      | nil => simp at h
      | cons m r =>
        simp only at h
        split at h
        · cases hp : parseL f (r.drop m.toNat) with
          | none => rw [hp] at h; simp at h
          | some o =>
            rw [hp] at h
            simp at h
            subst h
            have := parse_le f _ o hp
            simp; omega
        · simp at h
theorem parts_le {a : Lab} {out : List Lab} (h : partsE a = some out) : out.length ≤ 4 := by
  by_cases hk : a.k = 2
  · unfold partsE at h
    rw [if_neg (by omega), if_neg (by omega)] at h
    cases hp : parseL 4 a.s.data.toList with
    | none => rw [hp] at h; simp at h
    | some o =>
      rw [hp] at h
      simp only at h
      split at h
      · injection h with h
        subst h
        exact parse_le 4 _ _ hp
      · cases h
  · rw [(parts_simple hk h).2]; simp
theorem lab_cons {X : List Lab} {j : Nat} (h : j < X.length) : X.drop j = X.getD j noLab :: X.drop (j + 1) := by
  rw [List.drop_eq_getElem_cons h]
  simp only [List.getD, List.getElem?_eq_getElem h, Option.getD_some]
theorem listC_step {X Y : List Lab} {j : Nat} (h : j < X.length) (h' : j < Y.length) : listC simC (X.drop j) (Y.drop j) = if simC (X.getD j noLab) (Y.getD j noLab) = 0 then listC simC (X.drop (j + 1)) (Y.drop (j + 1)) else simC (X.getD j noLab) (Y.getD j noLab) := by
  rw [lab_cons h, lab_cons h']; rfl
theorem PartsV.some {e : TypeId} {a : Lab} {base n c : Nat} {A : Option Addr} {w : World} (h : PartsV e (partsE a) base A n c w) (hr : rightE a = true) : ∃ X, partsE a = some X ∧ X.length = n ∧ OwnL w base e A n c X := by
  rcases h with ⟨h1, _⟩ | ⟨out, h1, h2, _, h4⟩
  · unfold rightE at hr; rw [h1] at hr; cases hr
  · exact ⟨out, h1, h2.symm, h4⟩
theorem six_keep {w w' : World} {p1 p2 p3 p4 p5 p6 : Addr} {v1 v2 v3 v4 v5 v6 : Value} (h : w.cell? p1 = some v1 ∧ w.cell? p2 = some v2 ∧ w.cell? p3 = some v3 ∧ w.cell? p4 = some v4 ∧ w.cell? p5 = some v5 ∧ w.cell? p6 = some v6) (hg : w.grownBy w' none) :
    w'.cell? p1 = some v1 ∧ w'.cell? p2 = some v2 ∧ w'.cell? p3 = some v3 ∧ w'.cell? p4 = some v4 ∧ w'.cell? p5 = some v5 ∧ w'.cell? p6 = some v6 := by
  have k : ∀ {p : Addr} {v : Value}, w.cell? p = some v → w'.cell? p = some v := fun {p v} hp => (World.cell?_of_block (hg.block p.block (World.block_lt_of_cell? w _ hp) (by simp))).trans hp
  exact ⟨k h.1, k h.2.1, k h.2.2.1, k h.2.2.2.1, k h.2.2.2.2.1, k h.2.2.2.2.2⟩
set_option maxRecDepth 100000 in
set_option maxHeartbeats 4000000 in
theorem ref5Compare_any (a b : Lab) (w : World) (hsa : a.s.size ≤ 1048576) (hsb : b.s.size ≤ 1048576) : Calls Tryd.prog 8 #[labO a, labO b] w (ToldG (.int .i64 (cmpE a b)) w) := by
  have HPA := Lib.hid (fun w' => ref5Parts_any a.k a.n a.s w' hsa)
  have HPB := Lib.hid (fun w' => ref5Parts_any b.k b.n b.s w' hsb)
  have HSI := Lib.hid (fun w' => ref5simple_any a b w')
  have HNQ := Lib.hid neq_nil_rlab
  have HEQ := Lib.hid eql_nil_rlab
  obtain ⟨ak, an, sa⟩ := a
  obtain ⟨bk, bn, sb⟩ := b
  unfold labO at *
  dsimp only at *
  obtain ⟨W, hW⟩ : ∃ W, W = (w.alloc (.cells #[.int .u8 ak, .int .i64 an, .string sa] 23)).alloc (.cells #[.int .u8 bk, .int .i64 bn, .string sb] 23) := ⟨_, rfl⟩
  have hg0 : w.grownBy W none := by rw [hW]; exact grown_alloc (World.grownBy_alloc w _ none) _
  have hba : Box W w.heap.size 23 #[.int .u8 ak, .int .i64 an, .string sa] := by rw [hW]; exact (Box.fresh w _ _).alloc _
  have hbb : Box W (w.heap.size + 1) 23 #[.int .u8 bk, .int .i64 bn, .string sb] := by
    have h1 := Box.fresh (w.alloc (.cells #[.int .u8 ak, .int .i64 an, .string sa] 23)) 23 #[.int .u8 bk, .int .i64 bn, .string sb]
    rw [hW]
    simpa using h1
  have HW := Lib.hid hW
  have HG0 := Lib.hid hg0
  have HBA := Lib.hid hba
  have HBB := Lib.hid hbb
  clear hW hg0 hba hbb
  go_enter Tryd.func8, Tryd.ntmps8
  go_upto_region 1 with (fail)
  rw [← HW.out]
  go_cut [5, 6] (fun v5 v6 wc => Both5 ⟨ak, an, sa⟩ ⟨bk, bn, sb⟩ W v5 v6 wc)
  case first =>
    have ca := cells3 HBA.out
    have cb := cells3 HBB.out
    obtain ⟨ca0, ca1, ca2⟩ := ca
    obtain ⟨cb0, cb1, cb2⟩ := cb
    have HKEEP := Lib.hid (fun (w' : World) (hg : W.grownBy w' none) => show (w'.cell? ⟨w.heap.size, 0, none⟩ = some (.int .u8 ak) ∧ w'.cell? ⟨w.heap.size, 1, none⟩ = some (.int .i64 an) ∧ w'.cell? ⟨w.heap.size, 2, none⟩ = some (.string sa)) ∧ w'.cell? ⟨w.heap.size + 1, 0, none⟩ = some (.int .u8 bk) ∧ w'.cell? ⟨w.heap.size + 1, 1, none⟩ = some (.int .i64 bn) ∧ w'.cell? ⟨w.heap.size + 1, 2, none⟩ = some (.string sb) from
      ⟨keep3 HBA.out hg, keep3 HBB.out hg⟩)
    have HG := Lib.hid (grown_refl W none)
    go_region_held3 (fun w' => (w'.cell? ⟨w.heap.size, 0, none⟩ = some (.int .u8 ak) ∧ w'.cell? ⟨w.heap.size, 1, none⟩ = some (.int .i64 an) ∧ w'.cell? ⟨w.heap.size, 2, none⟩ = some (.string sa)) ∧ w'.cell? ⟨w.heap.size + 1, 0, none⟩ = some (.int .u8 bk) ∧ w'.cell? ⟨w.heap.size + 1, 1, none⟩ = some (.int .i64 bn) ∧ w'.cell? ⟨w.heap.size + 1, 2, none⟩ = some (.string sb))
      (first | exact HKEEP.out _ HG2.out | exact HKEEP.out _ HG3.out | go_keep)
      (first
        | (go_at_call 18; (with_reducible refine (HPA.out _).mono ?_); rintro e w2 ⟨A, n, c, rfl, hp, hg⟩; have HP := Lib.hid hp; have HGA := Lib.hid hg; have HG2 := Lib.hid (show W.grownBy w2 none from grown_join (grown_drewN HG.out 1) hg (.inr (by simp))); clear hp hg)
        | (go_at_call 18; (with_reducible refine (HPB.out _).mono ?_); rintro e w3 ⟨A', n', c', rfl, hp, hg⟩; have HP' := Lib.hid hp; have HGB := Lib.hid hg; have HG3 := Lib.hid (show W.grownBy w3 none from grown_join HG2.out hg (.inr (by simp))); clear hp hg))
    go_wp2
    go_meet
    exact ⟨A, n, c, A', n', c', rfl, rfl, (HP.out.grow HGB.out), HP'.out.lower HG2.out.size, HG3.out⟩
  case rest =>
    obtain ⟨A, n, c, A', n', c', rfl, rfl, hp, hp', hgw⟩ := hcut
    have HG := Lib.hid (grown_join HG0.out hgw (.inr (by simp)))
    have ca := keep3 HBA.out hgw
    have cb := keep3 HBB.out hgw
    obtain ⟨ca0, ca1, ca2⟩ := ca
    obtain ⟨cb0, cb1, cb2⟩ := cb
    have q1 := HNQ.out A n c
    have q2 := HNQ.out A' n' c'
    have q3 := HEQ.out A n c
    have q4 := HEQ.out A' n' c'
    have HRA := Lib.hid hp.right
    have HRB := Lib.hid hp'.right
    have HP := Lib.hid hp
    have HP' := Lib.hid hp'
    have hisn : ∀ B : Option Addr, B.isNone = !B.isSome := fun B => by cases B <;> rfl
    rw [hisn] at q3 q4
    rw [HRA.out] at q1 q3
    rw [HRB.out] at q2 q4
    clear hp hp' hgw hisn
    cases hra : rightE ⟨ak, an, sa⟩ <;> cases hrb : rightE ⟨bk, bn, sb⟩
    · have HC : Hid (cmpE ⟨ak, an, sa⟩ ⟨bk, bn, sb⟩ = simC ⟨ak, an, sa⟩ ⟨bk, bn, sb⟩) := Lib.hid (by unfold cmpE; rw [hra, hrb]; simp)
      rw [hra] at q1 q3
      rw [hrb] at q2 q4
      clear hra hrb HRA HRB
      go_wp2_with fail
      refine (HSI.out _).mono ?_
      rintro e w5 ⟨rfl, hg⟩
      have HG := Lib.hid (grown_join HG.out hg (.inr (by simp)))
      clear hg
      go_wp2_with fail
      go_ret
      exact toldG_eq (by rw [HC.out]; rfl) HG.out
    · have HC : Hid (cmpE ⟨ak, an, sa⟩ ⟨bk, bn, sb⟩ = 1) := Lib.hid (by unfold cmpE; rw [hra, hrb]; simp)
      rw [hra] at q1 q3
      rw [hrb] at q2 q4
      clear hra hrb HRA HRB
      go_wp2
      go_ret
      exact toldG_eq (by rw [HC.out]; rfl) HG.out
    · have HC : Hid (cmpE ⟨ak, an, sa⟩ ⟨bk, bn, sb⟩ = -1) := Lib.hid (by unfold cmpE; rw [hra, hrb]; simp)
      rw [hra] at q1 q3
      rw [hrb] at q2 q4
      clear hra hrb HRA HRB
      go_wp2
      go_ret
      exact toldG_eq (by rw [HC.out]; rfl) HG.out
    · rw [hra] at q1 q3
      rw [hrb] at q2 q4
      by_cases hk : ak = 2 ∧ bk = 2
      · obtain ⟨rfl, rfl⟩ := hk
        obtain ⟨X, hX, hXn, hoX⟩ := HP.out.some hra
        obtain ⟨Y, hY, hYn, hoY⟩ := HP'.out.some hrb
        have HC : Hid (cmpE ⟨2, an, sa⟩ ⟨2, bn, sb⟩ = listC simC X Y) := Lib.hid (by
          unfold cmpE
          rw [if_neg (by rw [hra, hrb]; simp), if_neg (by rw [hra, hrb]; simp), if_neg (by rw [hra]; simp)]
          unfold partsD
          rw [hX, hY]; rfl)
        have HLX := Lib.hid hoX.labs
        have HLY := Lib.hid hoY.labs
        have HXN := Lib.hid hXn
        have HYN := Lib.hid hYn
        have HSIM := Lib.hid (fun x y w' => ref5simple_any x y w')
        have hX4 : n ≤ 4 := by rw [← hXn]; exact parts_le hX
        have hY4 : n' ≤ 4 := by rw [← hYn]; exact parts_le hY
        clear hra hrb HRA HRB hX hY hXn hYn hoX hoY HP HP' HSI HPA HPB
        have d1 : ((2 : Int) != 2) = false := by decide
        go_wp2
        go_loopw [7, 8] (fun v7 _ wr => ∃ j : Nat, j ≤ n ∧ j ≤ n' ∧ v7 = .int .i64 (j : Int) ∧ listC simC X Y = listC simC (X.drop j) (Y.drop j) ∧ wc.grownBy wr none) (fun v7 _ _ => n - (intOf v7).toNat)
        case atStart => exact ⟨0, by omega, by omega, rfl, rfl, grown_refl _ _⟩
        case round =>
          obtain ⟨j, hj, hj', rfl, hl, hgr⟩ := hrel
          have HL := Lib.hid hl
          have HGR := Lib.hid hgr
          clear hl
          by_cases h1 : j < n
          · by_cases h2 : j < n'
            · obtain ⟨b, off, rfl, hb, k0, k1, k2⟩ := (HLX.out.grow hgr).at_ h1
              obtain ⟨b', off', rfl, hb', m0, m1, m2⟩ := (HLY.out.grow hgr).at_ h2
              have HST := Lib.hid (listC_step (X := X) (Y := Y) (j := j) (by rw [HXN.out]; exact h1) (by rw [HYN.out]; exact h2))
              have HSJ := Lib.hid (HSIM.out (X.getD j noLab) (Y.getD j noLab))
              unfold labO at HSJ
              generalize X.getD j noLab = x at *
              generalize Y.getD j noLab = y at *
              obtain ⟨xk, xn, xs⟩ := x
              obtain ⟨yk, yn, ys⟩ := y
              dsimp only at k0 k1 k2 m0 m1 m2
              have HSIX := Lib.hid (fun (w' : World) (hg : wr.grownBy w' none) => six_keep ⟨k0, k1, k2, m0, m1, m2⟩ hg)
              clear hgr
              have i1 : (0 : Int) ≤ (j : Int) := by omega
              have i2 : (j : Int) < (n : Int) := by omega
              have i3 : (j : Int) < (n' : Int) := by omega
              go_wp2
              go_region_held3 (fun w' => w'.cell? ⟨b, off + j * 3, none⟩ = some (.int .u8 xk) ∧ w'.cell? ⟨b, off + j * 3 + 1, none⟩ = some (.int .i64 xn) ∧ w'.cell? ⟨b, off + j * 3 + 2, none⟩ = some (.string xs) ∧ w'.cell? ⟨b', off' + j * 3, none⟩ = some (.int .u8 yk) ∧ w'.cell? ⟨b', off' + j * 3 + 1, none⟩ = some (.int .i64 yn) ∧ w'.cell? ⟨b', off' + j * 3 + 2, none⟩ = some (.string ys))
                (first | exact HSIX.out _ HG7.out | go_keep)
                ((go_at_call 19; refine (HSJ.out _).mono ?_; rintro e w7 ⟨rfl, hg⟩; have HG7 := Lib.hid (show wr.grownBy w7 none from grown_join (grown_drewN (grown_refl wr none) 1) hg (.inr (by simp))); clear hg))
              by_cases hc : simC ⟨xk, xn, xs⟩ ⟨yk, yn, ys⟩ = 0
              · have d5 : (simC ⟨xk, xn, xs⟩ ⟨yk, yn, ys⟩ != 0) = false := by simp [hc]
                have HCC := Lib.hid hc
                clear hc
                generalize simC ⟨xk, xn, xs⟩ ⟨yk, yn, ys⟩ = z at *
                go_wp2
                go_roundw
                case rel => exact ⟨j + 1, by omega, by omega, by go_num, by rw [HL.out, HST.out, if_pos HCC.out], grown_join HGR.out HG7.out (.inr (by simp))⟩
                case measure => simp [intOf]; omega
              · have d5 : (simC ⟨xk, xn, xs⟩ ⟨yk, yn, ys⟩ != 0) = true := by simp [hc]
                have HCC := Lib.hid hc
                clear hc
                generalize simC ⟨xk, xn, xs⟩ ⟨yk, yn, ys⟩ = z at *
                go_wp2
                go_ret
                exact toldG_eq (by rw [HC.out, HL.out, HST.out, if_neg HCC.out]; rfl) (grown_join (grown_join HG.out HGR.out (.inr (by simp))) HG7.out (.inr (by simp)))
            · obtain rfl : n' = j := by omega
              have HV : Hid (listC simC X Y = 1) := Lib.hid (by
                rw [HL.out, lab_cons (by rw [HXN.out]; exact h1), List.drop_of_length_le (l := Y) (by rw [HYN.out]; exact Nat.le_refl _)]; rfl)
              have d6 : decide ((n : Int) < (n' : Int)) = false := by simp; omega
              have d7 : decide ((n' : Int) < (n : Int)) = true := by simp; omega
              have d8 : decide ((n' : Int) < (n' : Int)) = false := by simp
              clear hgr
              go_wp2
              go_ret
              exact toldG_eq (by rw [HC.out, HV.out]; rfl) (grown_join HG.out HGR.out (.inr (by simp)))
          · obtain rfl : n = j := by omega
            have d8 : decide ((n : Int) < (n : Int)) = false := by simp
            clear hgr
            by_cases h3 : n < n'
            · have HV : Hid (listC simC X Y = -1) := Lib.hid (by
                rw [HL.out, lab_cons (X := Y) (by rw [HYN.out]; exact h3), List.drop_of_length_le (l := X) (by rw [HXN.out]; exact Nat.le_refl _)]; rfl)
              have d6 : decide ((n : Int) < (n' : Int)) = true := by simp; omega
              go_wp2
              go_ret
              exact toldG_eq (by rw [HC.out, HV.out]; rfl) (grown_join HG.out HGR.out (.inr (by simp)))
            · obtain rfl : n = n' := by omega
              have HV : Hid (listC simC X Y = 0) := Lib.hid (by
                rw [HL.out, List.drop_of_length_le (l := Y) (by rw [HYN.out]; exact Nat.le_refl _), List.drop_of_length_le (by rw [HXN.out]; exact Nat.le_refl _)]; rfl)
              go_wp2
              go_ret
              exact toldG_eq (by rw [HC.out, HV.out]; rfl) (grown_join HG.out HGR.out (.inr (by simp)))
      · have HC : Hid (cmpE ⟨ak, an, sa⟩ ⟨bk, bn, sb⟩ = simC ⟨ak, an, sa⟩ ⟨bk, bn, sb⟩) := Lib.hid (by
          unfold cmpE
          rw [if_neg (by rw [hra, hrb]; simp), if_neg (by rw [hra, hrb]; simp), if_pos (by
            by_cases h1 : ak = 2
            · exact .inr (.inr (fun h => hk ⟨h1, h⟩))
            · exact .inr (.inl h1))])
        clear hra hrb HRA HRB
        by_cases h1 : ak = 2
        · have d1 : (ak != 2) = false := by simp [h1]
          have d2 : (bk != 2) = true := by
            have : bk ≠ 2 := fun h => hk ⟨h1, h⟩
            simp [this]
          clear hk h1
          go_wp2_with fail
          refine (HSI.out _).mono ?_
          rintro e w5 ⟨rfl, hg⟩
          have HG := Lib.hid (grown_join HG.out hg (.inr (by simp)))
          clear hg
          go_wp2_with fail
          go_ret
          exact toldG_eq (by rw [HC.out]; rfl) HG.out
        · have d1 : (ak != 2) = true := by simp [h1]
          clear hk h1
          go_wp2_with fail
          refine (HSI.out _).mono ?_
          rintro e w5 ⟨rfl, hg⟩
          have HG := Lib.hid (grown_join HG.out hg (.inr (by simp)))
          clear hg
          go_wp2_with fail
          go_ret
          exact toldG_eq (by rw [HC.out]; rfl) HG.out
end Go.Proofs.YtblmnbaejfhagaaDoor
