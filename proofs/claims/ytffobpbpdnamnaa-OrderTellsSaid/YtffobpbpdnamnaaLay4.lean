/-
  Layer 4: two runs laid as one into a row (order.lay), and order's Merge.
-/
import Derived.Test.YtffobpbpdnamnaaFind4
import Derived.Deep.AppendLies
namespace Go.Proofs.Ytffobpbpdnamnaa
open Go.ChangeShapes Go.WideShapes Go.ChangeAt Go.RowKit
set_option linter.unusedVariables false

/-! ### two rows as one, by K, those of a first of those that are alike -/
def mrgK (K : Int → Int) : List Int → List Int → List Int
  | [], b => b
  | x :: a, [] => x :: a
  | x :: a, y :: b => if K x ≤ K y then x :: mrgK K a (y :: b) else y :: mrgK K (x :: a) b
termination_by a b => a.length + b.length
theorem mrgK_nil_left (K : Int → Int) (b : List Int) : mrgK K [] b = b := by unfold mrgK; rfl
theorem mrgK_nil_right (K : Int → Int) (a : List Int) : mrgK K a [] = a := by cases a <;> (unfold mrgK; rfl)
theorem mrgK_a {K : Int → Int} {x y : Int} {a b : List Int} (h : K x ≤ K y) : mrgK K (x :: a) (y :: b) = x :: mrgK K a (y :: b) := by rw [mrgK, if_pos h]
theorem mrgK_b {K : Int → Int} {x y : Int} {a b : List Int} (h : ¬ K x ≤ K y) : mrgK K (x :: a) (y :: b) = y :: mrgK K (x :: a) b := by rw [mrgK, if_neg h]
theorem mrgK_id (a b : List Int) : mrgK id a b = mrg a b := by
  obtain ⟨n, hn⟩ : ∃ n, n = a.length + b.length := ⟨_, rfl⟩
  induction n generalizing a b with
  | zero =>
    obtain rfl : a = [] := List.eq_nil_of_length_eq_zero (by omega)
    rw [mrgK_nil_left, mrg_nil_left]
  | succ n ih =>
    cases a with
    | nil => rw [mrgK_nil_left, mrg_nil_left]
    | cons x a =>
      cases b with
      | nil => rw [mrgK_nil_right, mrg_nil_right]
      | cons y b =>
        simp only [List.length_cons] at hn
        by_cases h : x ≤ y
        · rw [mrgK_a (K := id) h, mrg_a h, ih a (y :: b) (by simp only [List.length_cons]; omega)]
        · rw [mrgK_b (K := id) h, mrg_b h, ih (x :: a) b (by simp only [List.length_cons]; omega)]
theorem mrgK_perm (K : Int → Int) (a b : List Int) : (mrgK K a b).Perm (a ++ b) := by
  obtain ⟨n, hn⟩ : ∃ n, n = a.length + b.length := ⟨_, rfl⟩
  induction n generalizing a b with
  | zero =>
    obtain rfl : a = [] := List.eq_nil_of_length_eq_zero (by omega)
    rw [mrgK_nil_left]; exact List.Perm.refl _
  | succ n ih =>
    cases a with
    | nil => rw [mrgK_nil_left]; exact List.Perm.refl _
    | cons x a =>
      cases b with
      | nil => rw [mrgK_nil_right, List.append_nil]
      | cons y b =>
        simp only [List.length_cons] at hn
        by_cases h : K x ≤ K y
        · rw [mrgK_a h]
          exact List.Perm.cons _ (ih a (y :: b) (by simp only [List.length_cons]; omega))
        · rw [mrgK_b h]
          exact (List.Perm.cons _ (ih (x :: a) b (by simp only [List.length_cons]; omega))).trans (List.perm_middle (l₁ := x :: a)).symm
theorem mrgK_length (K : Int → Int) (a b : List Int) : (mrgK K a b).length = a.length + b.length := by rw [(mrgK_perm K a b).length_eq, List.length_append]
theorem drop_cons {a : List Int} {i : Nat} (hi : i < a.length) : a.drop i = a.getD i 0 :: a.drop (i + 1) := by
  rw [List.drop_eq_getElem_cons hi]
  simp only [List.getD, List.getElem?_eq_getElem hi, Option.getD_some]
theorem mrgK_take {K : Int → Int} {a b : List Int} {i k : Nat} (hi : i < a.length) (h : b.length ≤ k ∨ K (a.getD i 0) ≤ K (b.getD k 0)) : mrgK K (a.drop i) (b.drop k) = a.getD i 0 :: mrgK K (a.drop (i + 1)) (b.drop k) := by
  rcases Nat.lt_or_ge k b.length with hk | hk
  · rw [drop_cons hi, drop_cons hk, mrgK_a (by omega)]
  · rw [List.drop_eq_nil_of_le hk, mrgK_nil_right, mrgK_nil_right, drop_cons hi]
theorem mrgK_give {K : Int → Int} {a b : List Int} {i k : Nat} (hk : k < b.length) (h : a.length ≤ i ∨ ¬ K (a.getD i 0) ≤ K (b.getD k 0)) : mrgK K (a.drop i) (b.drop k) = b.getD k 0 :: mrgK K (a.drop i) (b.drop (k + 1)) := by
  rcases Nat.lt_or_ge i a.length with hi | hi
  · rw [drop_cons hi, drop_cons hk, mrgK_b (by omega)]
  · rw [List.drop_eq_nil_of_le hi, mrgK_nil_left, mrgK_nil_left, drop_cons hk]
theorem splice_snoc {zs pre : List Int} {d : Nat} {v : Int} (h : d + pre.length < zs.length) : (splice zs d pre).set (d + pre.length) v = splice zs d (pre ++ [v]) := by
  refine ints_eq (by rw [List.length_set, length_splice _ _ _ (by omega), length_splice _ _ _ (by rw [List.length_append, List.length_singleton]; omega)]) fun i hi => ?_
  rw [List.length_set, length_splice _ _ _ (by omega)] at hi
  rw [splice_get (by rw [List.length_append, List.length_singleton]; omega), List.length_append, List.length_singleton]
  by_cases e : i = d + pre.length
  · subst e
    rw [if_pos (by omega), show d + pre.length - d = pre.length by omega]
    simp [List.getD, length_splice _ _ _ (show d + pre.length ≤ zs.length by omega), h]
  · have h1 := splice_get (zs := zs) (cs := pre) (off := d) (i := i) (by omega)
    have h2 : ((splice zs d pre).set (d + pre.length) v).getD i 0 = (splice zs d pre).getD i 0 := by
      simp only [List.getD]
      rw [List.getElem?_set_ne (Ne.symm e)]
    rw [h2, h1]
    by_cases e2 : d ≤ i ∧ i < d + pre.length
    · rw [if_pos e2, if_pos (by omega)]
      simp only [List.getD]
      rw [List.getElem?_append_left (by omega)]
    · rw [if_neg e2, if_neg (by omega)]

/-! ### a run that is read while block R, from place d on, is written -/
/-- the numbers xs at A, in a block and from a place on as S says. -/
def Run (w : World) (S : Nat → Nat → Prop) (A : Option Addr) (xs : List Int) : Prop := 0 < xs.length → ∃ b o, A = some ⟨b, o, none⟩ ∧ b < w.heap.size ∧ S b o ∧ ∀ k, k < xs.length → w.cell? ⟨b, o + k, none⟩ = some (.int .i64 (xs.getD k 0))
/-- function f, with what it holds, compares the numbers of xs with those of ys by K, while block R alone turns. -/
def AskIn (w : World) (R : Nat) (f : FuncId) (cap : Array Value) (K : Int → Int) (xs ys : List Int) : Prop :=
  ∀ (w1 : World) (x y : Int), w.grownBy w1 (some R) → x ∈ xs → y ∈ ys → Calls Try.prog f (#[.int .i64 x, .int .i64 y] ++ cap) w1 fun e w' => e = .returned (.int .i64 (cmpI (K x) (K y))) ∧ ∃ m, w' = w1.drewN m
def Laid (w : World) (R : Nat) (zs : List Int) (e : Ending) (w' : World) : Prop := e = .returned (.tuple #[]) ∧ Whole w' R zs ∧ w.grownBy w' (some R)
theorem getD_mem {l : List Int} {i : Nat} (h : i < l.length) : l.getD i 0 ∈ l := by
  simp only [List.getD, List.getElem?_eq_getElem h, Option.getD_some]
  exact List.getElem_mem _
/-- what is left of a run, where its head is taken. -/
theorem run_next {A : Option Addr} {n c x : Nat} {b o : Nat} (hx : x < n) (hc : n - x ≤ c) (h : A = some ⟨b, o + x, none⟩) :
    ∃ A2 : Option Addr, (∀ w : World, (Instr.slice 22 (.slice A (n - x) c) (some (.int .i64 1)) none none).run Try.prog w = .ok (.slice A2 (n - (x + 1)) (c - 1)) w) ∧ (x + 1 < n → A2 = some ⟨b, o + (x + 1), none⟩) := by
  subst h
  refine ⟨if c = 1 then some ⟨b, o + x, none⟩ else some ⟨b, o + (x + 1), none⟩, fun w => ?_, fun h => by rw [if_neg (by omega)]⟩
  rw [run_slice_l (P := Try.prog) (w := w) (t := 22) (ht := Try.underlying22) (kl := .i64) (l := 1) (h0 := by omega) (h1 := by omega)]
  have h2 : (sizeOf (Try.prog.elem 22)).run Try.prog w = .ok 1 w := by kernel_rfl
  rw [h2]
  simp only [Result.andThen, sliced, Option.map_some, Addr.add_lit]
  have e1 : (1 : Int).toNat = 1 := rfl
  rw [e1, show n - x - 1 = n - (x + 1) by omega, show o + x + 1 * 1 = o + (x + 1) by omega]
theorem keep_cell {w : World} {p q : Addr} {v : Value} (h : w.cell? p = some v) : (w.setCell q v).cell? p = some v := by
  by_cases e : q = p
  · subst e; exact World.cell?_setCell_same _ _ _ h
  · rw [World.cell?_setCell_other _ _ _ _ e]; exact h
/-- what is not yet taken of the second run reads as it did. -/
theorem run_cell {w wr : World} {R d n y bb ob : Nat} {zs pre : List Int} {v : Int} (hW : Whole w R zs) (hWR : Whole wr R (splice zs d pre)) (hg : w.grownBy wr (some R)) (hs : pre.length ≤ n + y) (hlt : d + n + y < zs.length)
    (hb : bb < w.heap.size) (hbr : bb ≠ R ∨ (bb = R ∧ ob = d + n)) (hc : w.cell? ⟨bb, ob + y, none⟩ = some (.int .i64 v)) : wr.cell? ⟨bb, ob + y, none⟩ = some (.int .i64 v) := by
  rcases hbr with hne | ⟨rfl, rfl⟩
  · exact (hg.cell_far ⟨bb, ob + y, none⟩ hb (by intro e; injection e with e; exact hne e)).trans hc
  · rw [hW.cell hlt] at hc
    rw [hWR.cell (by rw [length_splice _ _ _ (by omega)]; exact hlt), splice_get (by omega), if_neg (by omega)]
    exact hc
set_option maxHeartbeats 2000000 in
theorem lay4_any (f : FuncId) (cap : Array Value) (K : Int → Int) (R d cr : Nat) (A A' : Option Addr) (c c' n n' : Nat) (zs xs ys : List Int) (w : World) (hpl : Plain f) (hask : AskIn w R f cap K xs ys)
    (hW : Whole w R zs) (hn : xs.length = n) (hn' : ys.length = n') (hd : d + (n + n') ≤ zs.length) (hz : zs.length ≤ 1048576) (ha : Run w (fun b _ => b ≠ R) A xs) (hb : Run w (fun b o => b ≠ R ∨ (b = R ∧ o = d + n)) A' ys) (hc : n ≤ c) (hc' : n' ≤ c') :
    Calls Try.prog 27 #[.slice (some ⟨R, d, none⟩) ((n + n' : Nat)) cr, .slice A n c, .slice A' n' c', .func (.func f) #[] cap] w (Laid w R (splice zs d (mrgK K xs ys))) := by
  have HASK := Lib.hid hask
  have HW := Lib.hid hW
  have HN := Lib.hid hn
  have HN' := Lib.hid hn'
  have HA := Lib.hid ha
  have HB := Lib.hid hb
  unfold Plain at hpl
  obtain ⟨N, hN⟩ : ∃ N, N = n + n' := ⟨_, rfl⟩
  rw [← hN]
  have HNN := Lib.hid hN
  have hN1 : N ≤ 1048576 := by omega
  have hN2 : n ≤ N := by omega
  have hN3 : n' ≤ N := by omega
  clear hask hW hn hn' ha hb hN
  go_enter Try.func27, Try.ntmps27
  go_wp2
  go_loopw [1, 2, 8, 11] (fun va vb _ i wr => ∃ (x y s : Nat) (pre : List Int) (A2 A2' : Option Addr) (c2 c2' : Nat), x ≤ n ∧ y ≤ n' ∧ s = x + y ∧ i = .int .i64 (s : Int) ∧ va = .slice A2 (n - x) c2 ∧ vb = .slice A2' (n' - y) c2' ∧ n - x ≤ c2 ∧ n' - y ≤ c2' ∧
    (x < n → ∃ b o, A = some ⟨b, o, none⟩ ∧ A2 = some ⟨b, o + x, none⟩) ∧ (y < n' → ∃ b o, A' = some ⟨b, o, none⟩ ∧ A2' = some ⟨b, o + y, none⟩) ∧
    pre.length = s ∧ mrgK K xs ys = pre ++ mrgK K (xs.drop x) (ys.drop y) ∧ Whole wr R (splice zs d pre) ∧ w.grownBy wr (some R)) (fun _ _ _ i _ => N - (intOf i).toNat)
  case atStart => exact ⟨0, 0, 0, [], A, A', c, c', by omega, by omega, rfl, rfl, rfl, rfl, by omega, by omega, fun h => by
    obtain ⟨b, o, e, _⟩ := HA.out (by rw [HN.out]; exact h)
    exact ⟨b, o, e, e⟩, fun h => by
    obtain ⟨b, o, e, _⟩ := HB.out (by rw [HN'.out]; exact h)
    exact ⟨b, o, e, e⟩, rfl, by simp, by
    have e : splice zs d [] = zs := by simp [splice]
    rw [e]; exact HW.out, grown_refl _ _⟩
  case round =>
    obtain ⟨x, y, s, pre, A2, A2', c2, c2', hx, hy, hs, rfl, rfl, rfl, hcx, hcy, hax, hay, hpre, hm, hwr, hg⟩ := hrel
    have HAX := Lib.hid hax
    have HAY := Lib.hid hay
    have HPRE := Lib.hid hpre
    have HM := Lib.hid hm
    have HWR := Lib.hid hwr
    have HG := Lib.hid hg
    clear hax hay hpre hm hwr hg
    by_cases hlt : s < N
    · have hwl : d + pre.length < zs.length := by have := HPRE.out; have := HNN.out; omega
      have hcell := HWR.out.cell (i := d + s) (by have := HPRE.out; rw [length_splice _ _ _ (by omega)]; omega)
      have hfree := HWR.out.free (d + s)
      have HSN := Lib.hid (fun v : Int => splice_snoc (zs := zs) (pre := pre) (d := d) (v := v) hwl)
      generalize hold : (splice zs d pre).getD (d + s) 0 = old at hcell
      obtain ⟨p, hp⟩ : ∃ p, p = n - x := ⟨_, rfl⟩
      obtain ⟨q, hq⟩ : ∃ q, q = n' - y := ⟨_, rfl⟩
      rw [← hp, ← hq]
      have hNxy : N = x + y + (p + q) := by have := HNN.out; omega
      have i1 : (0 : Int) ≤ (s : Int) := by omega
      have i2 : (s : Int) < (N : Int) := by omega
      have HSS := Lib.hid hs
      clear hwl hold
      by_cases hyn : y < n'
      · obtain ⟨bb, ob, eb, hbb, hbr, hcb⟩ := HB.out (by rw [HN'.out]; omega)
        have hB2 : A2' = some ⟨bb, ob + y, none⟩ := by
          obtain ⟨b, o, e1, e2⟩ := HAY.out hyn
          rw [eb] at e1
          injection e1 with e1; injection e1 with e1 e3
          subst e1; subst e3
          exact e2
        have hc2 := run_cell HW.out HWR.out HG.out (n := n) (y := y) (by have := HPRE.out; omega) (by omega) hbb hbr (hcb y (by rw [HN'.out]; exact hyn))
        have t1 : ((q : Int) == 0) = false := by simp; omega
        have t2 : (0 : Int) ≤ 1 := by omega
        have q3 : (1 : Int) ≤ (q : Int) := by omega
        have q4 : (0 : Int) < (q : Int) := by omega
        have q5 : 0 < q := by omega
        obtain ⟨B3, hslb, hB3⟩ := run_next hyn (by omega) hB2
        rw [← hq] at hslb
        have HB3 := Lib.hid hB3
        have HYM := Lib.hid (getD_mem (l := ys) (i := y) (by rw [HN'.out]; exact hyn))
        have HYL : Hid (y < ys.length) := Lib.hid (by rw [HN'.out]; exact hyn)
        by_cases hx1 : x < n
        · obtain ⟨ba, oa, ea, hba, har, hca⟩ := HA.out (by rw [HN.out]; omega)
          have hA2 : A2 = some ⟨ba, oa + x, none⟩ := by
            obtain ⟨b, o, e1, e2⟩ := HAX.out hx1
            rw [ea] at e1
            injection e1 with e1; injection e1 with e1 e3
            subst e1; subst e3
            exact e2
          have hc1 := (HG.out.cell_far ⟨ba, oa + x, none⟩ hba (by intro e; injection e with e; exact har e)).trans (hca x (by rw [HN.out]; exact hx1))
          obtain ⟨A3, hsl, hA3⟩ := run_next hx1 (by omega) hA2
          subst hA2
          subst hB2
          rw [← hp] at hsl
          have HA3 := Lib.hid hA3
          have HXM := Lib.hid (getD_mem (l := xs) (i := x) (by rw [HN.out]; exact hx1))
          have HXL : Hid (x < xs.length) := Lib.hid (by rw [HN.out]; exact hx1)
          have t3 : (1 : Int) ≤ (p : Int) := by omega
          have t4 : (0 : Int) < (p : Int) := by omega
          have t5 : 0 < p := by omega
          have HXU := Lib.hid (fun h => mrgK_take (K := K) (a := xs) (b := ys) (i := x) (k := y) HXL.out (.inr h))
          have HYV := Lib.hid (fun h => mrgK_give (K := K) (a := xs) (b := ys) (i := x) (k := y) HYL.out (.inr h))
          generalize hu : xs.getD x 0 = u at *
          generalize hv : ys.getD y 0 = v at *
          have HKC := Lib.hid (fun w : World => keep_cell (w := w) (p := ⟨ba, oa + x, none⟩) (q := ⟨R, d + s, none⟩) (v := .int .i64 u))
          have HKD := Lib.hid (fun w : World => keep_cell (w := w) (p := ⟨bb, ob + y, none⟩) (q := ⟨R, d + s, none⟩) (v := .int .i64 v))
          have HCM := Lib.hid (fun k => HASK.out (wr.drewN k) u v (grown_drewN HG.out k) HXM.out HYM.out)
          have HHP := Lib.hid hp
          have HHQ := Lib.hid hq
          clear hA3 hB3 hca hcb hp hq hNxy hs hu hv
          by_cases he : K u ≤ K v
          · have hb : decide (cmpI (K u) (K v) ≤ 0) = true := decide_eq_true (cmpI_le.2 he)
            have HXE := Lib.hid (HXU.out he)
            clear he hslb
            go_wp2
            go_quiet (exact Calls.quiet_of (HCM.out _))
            go_wp2
            go_region_held3 (fun w' => w'.cell? ⟨ba, oa + x, none⟩ = some (.int .i64 u)) (first | go_keep | exact HKC.out _ (by assumption)) (fail)
            go_wp2
            go_roundw
            case rel => exact ⟨x + 1, y, s + 1, pre ++ [u], A3, _, c2 - 1, c2', by omega, hy, by have := HSS.out; omega, by go_num, rfl, by rw [HHQ.out], by omega, hcy, fun h => ⟨ba, oa, ea, HA3.out h⟩, HAY.out, by rw [List.length_append, HPRE.out]; rfl, by rw [HM.out, HXE.out]; simp, by rw [← HSN.out, HPRE.out]; exact HWR.out.put _ _, grown_put (grown_drewN HG.out _) (.inl rfl) _⟩
            case measure => simp [intOf]; omega
          · have hb : decide (cmpI (K u) (K v) ≤ 0) = false := decide_eq_false fun h => he (cmpI_le.1 h)
            have HYE := Lib.hid (HYV.out he)
            clear he hsl
            go_wp2
            go_quiet (exact Calls.quiet_of (HCM.out _))
            go_wp2
            go_region_held3 (fun w' => w'.cell? ⟨bb, ob + y, none⟩ = some (.int .i64 v)) (first | go_keep | exact HKD.out _ (by assumption)) (fail)
            go_wp2
            go_roundw
            case rel => exact ⟨x, y + 1, s + 1, pre ++ [v], _, B3, c2, c2' - 1, hx, by omega, by have := HSS.out; omega, by go_num, by rw [HHP.out], rfl, hcx, by omega, HAX.out, fun h => ⟨bb, ob, eb, HB3.out h⟩, by rw [List.length_append, HPRE.out]; rfl, by rw [HM.out, HYE.out]; simp, by rw [← HSN.out, HPRE.out]; exact HWR.out.put _ _, grown_put (grown_drewN HG.out _) (.inl rfl) _⟩
            case measure => simp [intOf]; omega
        · have HYE := Lib.hid (mrgK_give (K := K) (a := xs) (b := ys) (i := x) (k := y) HYL.out (.inl (by rw [HN.out]; omega)))
          subst hB2
          generalize hv : ys.getD y 0 = v at *
          have HKD := Lib.hid (fun w : World => keep_cell (w := w) (p := ⟨bb, ob + y, none⟩) (q := ⟨R, d + s, none⟩) (v := .int .i64 v))
          have t3 : decide ((0 : Int) < (p : Int)) = false := by simp; omega
          have t4 : decide (0 < p) = false := by simp; omega
          have HHP := Lib.hid hp
          have HHQ := Lib.hid hq
          clear hB3 hcb hp hq hNxy hs hv
          go_wp2
          go_quiet (fail)
          go_wp2
          go_region_held3 (fun w' => w'.cell? ⟨bb, ob + y, none⟩ = some (.int .i64 v)) (first | go_keep | exact HKD.out _ (by assumption)) (fail)
          go_wp2
          go_roundw
          case rel => exact ⟨x, y + 1, s + 1, pre ++ [v], _, B3, c2, c2' - 1, hx, by omega, by have := HSS.out; omega, by go_num, by rw [HHP.out], rfl, hcx, by omega, HAX.out, fun h => ⟨bb, ob, eb, HB3.out h⟩, by rw [List.length_append, HPRE.out]; rfl, by rw [HM.out, HYE.out]; simp, by rw [← HSN.out, HPRE.out]; exact HWR.out.put _ _, grown_put (grown_drewN HG.out _) (.inl rfl) _⟩
          case measure => simp [intOf]; omega
      · have hx1 : x < n := by omega
        obtain ⟨ba, oa, ea, hba, har, hca⟩ := HA.out (by rw [HN.out]; omega)
        have hA2 : A2 = some ⟨ba, oa + x, none⟩ := by
          obtain ⟨b, o, e1, e2⟩ := HAX.out hx1
          rw [ea] at e1
          injection e1 with e1; injection e1 with e1 e3
          subst e1; subst e3
          exact e2
        have hc1 := (HG.out.cell_far ⟨ba, oa + x, none⟩ hba (by intro e; injection e with e; exact har e)).trans (hca x (by rw [HN.out]; exact hx1))
        obtain ⟨A3, hsl, hA3⟩ := run_next hx1 (by omega) hA2
        subst hA2
        rw [← hp] at hsl
        have HA3 := Lib.hid hA3
        have HXU := Lib.hid (mrgK_take (K := K) (a := xs) (b := ys) (i := x) (k := y) (by rw [HN.out]; exact hx1) (.inl (by rw [HN'.out]; omega)))
        generalize hu : xs.getD x 0 = u at *
        have t1 : ((q : Int) == 0) = true := by simp; omega
        have t2 : (0 : Int) ≤ 1 := by omega
        have t3 : (1 : Int) ≤ (p : Int) := by omega
        have t4 : (0 : Int) < (p : Int) := by omega
        have t5 : 0 < p := by omega
        have HKC := Lib.hid (fun w : World => keep_cell (w := w) (p := ⟨ba, oa + x, none⟩) (q := ⟨R, d + s, none⟩) (v := .int .i64 u))
        have HHP := Lib.hid hp
        have HHQ := Lib.hid hq
        clear hA3 hu hca hp hq hNxy hs
        go_wp2
        go_quiet (fail)
        go_wp2
        go_region_held3 (fun w' => w'.cell? ⟨ba, oa + x, none⟩ = some (.int .i64 u)) (first | go_keep | exact HKC.out _ (by assumption)) (fail)
        go_wp2
        go_roundw
        case rel => exact ⟨x + 1, y, s + 1, pre ++ [u], A3, A2', c2 - 1, c2', by omega, hy, by have := HSS.out; omega, by go_num, rfl, by rw [HHQ.out], by omega, hcy, fun h => ⟨ba, oa, ea, HA3.out h⟩, HAY.out, by rw [List.length_append, HPRE.out]; rfl, by rw [HM.out, HXU.out]; simp, by rw [← HSN.out, HPRE.out]; exact HWR.out.put _ _, grown_put (grown_drewN HG.out _) (.inl rfl) _⟩
        case measure => simp [intOf]; omega
    · have hxn : x = n := by have := HNN.out; omega
      have hyn : y = n' := by have := HNN.out; omega
      subst hxn
      subst hyn
      have hd0 : decide ((s : Int) < (N : Int)) = false := by simp; omega
      go_wp2
      go_end0
      have h1 := HM.out
      rw [List.drop_of_length_le (by rw [HN.out]; exact Nat.le_refl _), mrgK_nil_left, List.drop_of_length_le (by rw [HN'.out]; exact Nat.le_refl _), List.append_nil] at h1
      exact ⟨rfl, by rw [h1]; exact HWR.out, HG.out⟩
end Go.Proofs.Ytffobpbpdnamnaa
