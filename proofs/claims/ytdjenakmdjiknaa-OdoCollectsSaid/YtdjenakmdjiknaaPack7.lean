/-
  Texts of this claim, one behind the other.
-/
import Derived.Deep.MidRow
import Derived.Shelf.Abstract
import Derived.Shelf.RegionOpen
import Derived.OwnWalkIn
import Derived.TacticsInMore
import Derived.LoopNIn
import Derived.LoopIn
import Derived.Deep.AppendLies
import Derived.Test.YtdjenakmdjiknaaPack1
import Derived.Test.YtdjenakmdjiknaaPack2
import Derived.Test.YtdjenakmdjiknaaPack3
import Derived.Test.YtdjenakmdjiknaaPack4
import Derived.Test.YtdjenakmdjiknaaPack5
import Derived.Test.YtdjenakmdjiknaaPack6

/-! Layer 9, plain: what the program's own walk along a view's cells holds, and what its turn makes of it. -/
section
namespace Go.Proofs.Ytdjenakmdjiknaa
open Go.ChangeShapes Go.WideShapes Go.ChangeAt Go.RowKit
set_option linter.unusedVariables false
set_option maxRecDepth 100000

structure WalkS where
  ax : Int
  sz : Nat → Int
  st : Nat → Int
  dg : Nat → Int
  pl : Int
  on : Bool
  lf : Int
def zeroW : WalkS := ⟨0, fun _ => 0, fun _ => 0, fun _ => 0, 0, false, 0⟩
def updF (f : Nat → Int) (i : Nat) (z : Int) : Nat → Int := fun j => if j = i then z else f j
theorem updF_at (f : Nat → Int) (i : Nat) (z : Int) : updF f i z i = z := by simp [updF]
theorem updF_ne (f : Nat → Int) {i j : Nat} (z : Int) (h : j ≠ i) : updF f i z j = f j := by simp [updF, h]
/-- the 22 cells of a walk. -/
def walkL (s : WalkS) : List Value := [.int .i64 s.ax,
  .int .i64 (s.sz 0), .int .i64 (s.sz 1), .int .i64 (s.sz 2), .int .i64 (s.sz 3), .int .i64 (s.sz 4), .int .i64 (s.sz 5),
  .int .i64 (s.st 0), .int .i64 (s.st 1), .int .i64 (s.st 2), .int .i64 (s.st 3), .int .i64 (s.st 4), .int .i64 (s.st 5),
  .int .i64 (s.dg 0), .int .i64 (s.dg 1), .int .i64 (s.dg 2), .int .i64 (s.dg 3), .int .i64 (s.dg 4), .int .i64 (s.dg 5),
  .int .i64 s.pl, .bool s.on, .int .i64 s.lf]
theorem walkL_len (s : WalkS) : (walkL s).length = 22 := rfl
theorem walkL_one (s : WalkS) : ∀ u ∈ walkL s, u.oneCell' = true := by
  intro u hu
  simp only [walkL, List.mem_cons, List.not_mem_nil, or_false] at hu
  rcases hu with h | h | h | h | h | h | h | h | h | h | h | h | h | h | h | h | h | h | h | h | h | h <;> (subst h; rfl)
theorem six {i : Nat} (h : i < 6) : i = 0 ∨ i = 1 ∨ i = 2 ∨ i = 3 ∨ i = 4 ∨ i = 5 := by omega
theorem walkL_sz (s : WalkS) {i : Nat} (h : i < 6) : (walkL s)[1 + i]? = some (.int .i64 (s.sz i)) := by
  rcases six h with e | e | e | e | e | e <;> (subst e; rfl)
theorem walkL_st (s : WalkS) {i : Nat} (h : i < 6) : (walkL s)[7 + i]? = some (.int .i64 (s.st i)) := by
  rcases six h with e | e | e | e | e | e <;> (subst e; rfl)
theorem walkL_dg (s : WalkS) {i : Nat} (h : i < 6) : (walkL s)[13 + i]? = some (.int .i64 (s.dg i)) := by
  rcases six h with e | e | e | e | e | e <;> (subst e; rfl)
theorem walkL_put_dg (s : WalkS) {i : Nat} (h : i < 6) (z : Int) : (walkL s).set (13 + i) (.int .i64 z) = walkL { s with dg := updF s.dg i z } := by
  rcases six h with e | e | e | e | e | e <;> (subst e; rfl)
theorem walkL_put_pl (s : WalkS) (z : Int) : (walkL s).set 19 (.int .i64 z) = walkL { s with pl := z } := rfl
theorem walkL_put_on (s : WalkS) (b : Bool) : (walkL s).set 20 (.bool b) = walkL { s with on := b } := rfl
theorem walkL_put_lf (s : WalkS) (z : Int) : (walkL s).set 21 (.int .i64 z) = walkL { s with lf := z } := rfl

/-! ### where it stands -/
def offD (o : Int) (st dg : Nat → Int) : Nat → Int
  | 0 => o
  | k + 1 => offD o st dg k + dg k * st k
theorem offD_far (o : Int) (st dg : Nat → Int) {i : Nat} (z : Int) : ∀ n, n ≤ i → offD o st (updF dg i z) n = offD o st dg n
  | 0, _ => rfl
  | n + 1, h => by rw [offD, offD, offD_far o st dg z n (by omega), updF_ne dg z (show n ≠ i by omega)]
theorem offD_put (o : Int) (st dg : Nat → Int) {i : Nat} (z : Int) : ∀ n, i < n → offD o st (updF dg i z) n = offD o st dg n + (z - dg i) * st i
  | 0, h => by omega
  | n + 1, h => by
    rw [offD, offD]
    by_cases e : i = n
    · subst e
      rw [offD_far o st dg z i (Nat.le_refl _), updF_at, Int.sub_mul]
      generalize z * st i = a
      generalize dg i * st i = b
      omega
    · rw [offD_put o st dg z n (by omega), updF_ne dg z (show n ≠ i by omega)]
      generalize (z - dg i) * st i = a
      generalize dg n * st n = b
      omega
theorem offD_same {o : Int} {st st' dg dg' : Nat → Int} : ∀ n, (∀ i, i < n → st i = st' i ∧ dg i = dg' i) → offD o st dg n = offD o st' dg' n
  | 0, _ => rfl
  | n + 1, h => by rw [offD, offD, offD_same n (fun i hi => h i (by omega)), (h n (by omega)).1, (h n (by omega)).2]
theorem offE_offD (v : Vw) (at' : List Int) : ∀ n, offE v at' n = offD v.off (fun i => v.st.getD i 0) (fun i => at'.getD i 0) n
  | 0 => rfl
  | n + 1 => by rw [offE, offD, offE_offD v at' n]

/-- the walk stands at the p-th cell of v. -/
structure Core (s : WalkS) (v : Vw) (p : Nat) : Prop where
  ax : s.ax = (v.sh.length : Int)
  sz : ∀ i, i < v.sh.length → s.sz i = v.sh.getD i 0
  st : ∀ i, i < v.sh.length → s.st i = v.st.getD i 0
  dg : ∀ i, i < v.sh.length → s.dg i = digE v.sh (p : Int) i
  pl : s.pl = offE v (atL v.sh (p : Int)) v.sh.length
theorem atB_of {v : Vw} (hr : rightV v = true) {p : Nat} (hp : (p : Int) < prodL v.sh) : atB v.sh (p : Int) = true := by
  unfold atB
  rw [(rightV_all hr).1]
  simp only [Bool.true_and, decide_eq_true_eq]
  exact ⟨by omega, hp⟩
theorem off_in {v : Vw} (hr : rightV v = true) {p : Nat} (hp : (p : Int) < prodL v.sh) : I64 (offE v (atL v.sh (p : Int)) v.sh.length) := by
  have ha := atB_of hr hp
  have hb := (place_of_at ha).1
  have ho : offB v (atL v.sh (p : Int)) = true := by
    unfold offB
    rw [hr]
    unfold placeB at hb
    simp only [Bool.and_eq_true] at hb
    rw [hb.2]
    rfl
  have h := offE_in ho v.sh.length (Nat.le_refl _)
  have h6 := rightV_dims hr
  have h6' : (v.sh.length : Int) ≤ 6 := by omega
  unfold I64
  omega
theorem core_off {s : WalkS} {v : Vw} {p : Nat} (hr : rightV v = true) (hp : (p : Int) < prodL v.sh) (hst : ∀ i, i < v.sh.length → s.st i = v.st.getD i 0) (hdg : ∀ i, i < v.sh.length → s.dg i = digE v.sh (p : Int) i) :
    offE v (atL v.sh (p : Int)) v.sh.length = offD v.off s.st s.dg v.sh.length := by
  rw [offE_offD]
  refine offD_same _ fun i hi => ⟨(hst i hi).symm, ?_⟩
  rw [hdg i hi]
  exact atL_get (atB_of hr hp) hi
theorem wrap_join (a b : Int) : wrap64 (wrap64 a + b) = wrap64 (a + b) := by unfold wrap64; omega
theorem wrap_part (a b : Int) : wrap64 (wrap64 a - wrap64 b) = wrap64 (a - b) := by unfold wrap64; omega
theorem succ_in {r z : Int} (hz : 1 ≤ z) (h0 : 0 ≤ r % z) (h : r % z + 1 < z) : (r + 1) / z = r / z ∧ (r + 1) % z = r % z + 1 := by
  have h1 := Int.mul_ediv_add_emod r z
  generalize r / z = q at *
  generalize r % z = d at *
  subst h1
  rw [show z * q + d + 1 = d + 1 + z * q by omega, Int.add_mul_ediv_left _ _ (by omega), Int.add_mul_emod_self_left, Int.ediv_eq_zero_of_lt (by omega) h, Int.emod_eq_of_lt (by omega) h]
  exact ⟨by omega, rfl⟩
theorem succ_out {r z : Int} (hz : 1 ≤ z) (h : r % z + 1 = z) : (r + 1) / z = r / z + 1 ∧ (r + 1) % z = 0 := by
  have h1 := Int.mul_ediv_add_emod r z
  generalize r / z = q at *
  generalize r % z = d at *
  subst h1
  rw [show z * q + d + 1 = z + z * q by omega, Int.add_mul_ediv_left _ _ (by omega), Int.add_mul_emod_self_left, Int.ediv_self (by omega), Int.emod_self]
  exact ⟨by omega, rfl⟩
/-- a turn under way: m digits are still to be looked at; those behind them are turned. -/
structure Turning (s s0 : WalkS) (v : Vw) (p m : Nat) : Prop where
  le : m ≤ v.sh.length
  ax : s.ax = (v.sh.length : Int)
  sz : ∀ i, i < v.sh.length → s.sz i = v.sh.getD i 0
  st : ∀ i, i < v.sh.length → s.st i = v.st.getD i 0
  old : ∀ i, i < m → s.dg i = digE v.sh (p : Int) i
  new : ∀ i, m ≤ i → i < v.sh.length → s.dg i = digE v.sh ((p : Int) + 1) i
  pl : s.pl = wrap64 (offD v.off s.st s.dg v.sh.length)
  rest : restE v.sh ((p : Int) + 1) (v.sh.length - m) = restE v.sh (p : Int) (v.sh.length - m) + 1
  on : s.on = s0.on
  lf : s.lf = s0.lf
section
variable {s s0 : WalkS} {v : Vw} {p m : Nat}
theorem turn_start (hr : rightV v = true) (hp : (p : Int) + 1 < prodL v.sh) (h : Core s v p) : Turning s s v p v.sh.length := by
  refine ⟨Nat.le_refl _, h.ax, h.sz, h.st, h.dg, fun i h1 h2 => by omega, ?_, by rw [Nat.sub_self]; rfl, rfl, rfl⟩
  rw [h.pl, ← core_off hr (by omega) h.st h.dg]
  exact (IntWalk.wrap64_in _ (off_in hr (by omega))).symm
theorem ones_of (hr : rightV v = true) (hp : (p : Int) + 1 < prodL v.sh) : ∀ z ∈ v.sh, 1 ≤ z := at_ones (atB_of hr (by omega : (p : Int) < prodL v.sh))
theorem turn_dig (hr : rightV v = true) (hp : (p : Int) + 1 < prodL v.sh) {i : Nat} (hi : i < v.sh.length) : 0 ≤ digE v.sh (p : Int) i ∧ digE v.sh (p : Int) i < v.sh.getD i 0 ∧ 1 ≤ v.sh.getD i 0 ∧ v.sh.getD i 0 ≤ 1048576 := by
  have hz := getD_one (ones_of hr hp) hi
  have := rightV_len hr hi
  unfold digE
  exact ⟨Int.emod_nonneg _ (by omega), Int.emod_lt_of_pos _ (by omega), hz, this.2⟩
theorem turn_end (hr : rightV v = true) (hp : (p : Int) + 1 < prodL v.sh) (h : Turning s s0 v p 0) : False := by
  have h1 := rest_in (ones_of hr hp) (show (0 : Int) ≤ (p : Int) by omega) (by omega) v.sh.length (Nat.le_refl _)
  have h2 := rest_in (ones_of hr hp) (show (0 : Int) ≤ (p : Int) + 1 by omega) hp v.sh.length (Nat.le_refl _)
  have h3 := h.rest
  rw [Nat.sub_self, List.take_zero] at h1 h2
  rw [Nat.sub_zero] at h3
  simp only [prodL] at h1 h2
  omega
/-- the digit i goes on by one: either that is all .. -/
theorem turn_go (hr : rightV v = true) (hp : (p : Int) + 1 < prodL v.sh) {i : Nat} (h : Turning s s0 v p (i + 1)) (hd : s.dg i + 1 < s.sz i) :
    Core { s with dg := updF s.dg i (s.dg i + 1), pl := wrap64 (s.pl + s.st i) } v (p + 1) := by
  have hi : i < v.sh.length := h.le
  have hz := turn_dig hr hp hi
  have eN : v.sh.length - (i + 1) = v.sh.length - 1 - i := by omega
  have hrest := h.rest
  rw [eN] at hrest
  have ed := h.old i (by omega)
  have es := h.sz i hi
  -- from here on the rest of both counts is one
  have hsame0 : restE v.sh ((p : Int) + 1) (v.sh.length - i) = restE v.sh (p : Int) (v.sh.length - i) := by
    rw [show v.sh.length - i = (v.sh.length - 1 - i) + 1 by omega, restE, restE, show v.sh.length - 1 - (v.sh.length - 1 - i) = i by omega, hrest]
    rw [ed, es] at hd
    unfold digE at hd hz
    generalize restE v.sh (p : Int) (v.sh.length - 1 - i) = r at *
    generalize v.sh.getD i 0 = z at *
    exact (succ_in hz.2.2.1 hz.1 hd).1
  have hsame : ∀ t, restE v.sh ((p : Int) + 1) (v.sh.length - i + t) = restE v.sh (p : Int) (v.sh.length - i + t) := by
    intro t
    induction t with
    | zero => exact hsame0
    | succ t ih => rw [← Nat.add_assoc, restE, restE, ih]
  have hdg : ∀ j, j < v.sh.length → updF s.dg i (s.dg i + 1) j = digE v.sh (((p + 1 : Nat)) : Int) j := by
    intro j hj
    rw [show ((p + 1 : Nat) : Int) = (p : Int) + 1 by omega]
    by_cases hji : j = i
    · subst hji
      rw [updF_at, ed]
      rw [ed, es] at hd
      unfold digE at *
      rw [hrest]
      generalize restE v.sh (p : Int) (v.sh.length - 1 - j) = r at *
      generalize v.sh.getD j 0 = z at *
      exact (succ_in hz.2.2.1 hz.1 hd).2.symm
    · rw [updF_ne _ _ hji]
      by_cases hlt : j < i
      · rw [h.old j (by omega)]
        unfold digE
        rw [show v.sh.length - 1 - j = v.sh.length - i + (i - 1 - j) by omega, hsame]
      · exact h.new j (by omega) hj
  refine ⟨h.ax, h.sz, h.st, hdg, ?_⟩
  show wrap64 (s.pl + s.st i) = _
  rw [h.pl, wrap_join]
  have e1 : offE v (atL v.sh ((p + 1 : Nat) : Int)) v.sh.length = offD v.off s.st (updF s.dg i (s.dg i + 1)) v.sh.length :=
    core_off (s := { s with dg := updF s.dg i (s.dg i + 1), pl := wrap64 (s.pl + s.st i) }) hr (by omega) h.st hdg
  rw [e1]
  have e2 := offD_put v.off s.st s.dg (s.dg i + 1) v.sh.length hi
  rw [show s.dg i + 1 - s.dg i = 1 by omega, Int.one_mul] at e2
  rw [← e2, ← e1]
  exact IntWalk.wrap64_in _ (off_in hr (by omega))
/-- .. or it begins anew, and the next one is turned. -/
theorem turn_next (hr : rightV v = true) (hp : (p : Int) + 1 < prodL v.sh) {i : Nat} (h : Turning s s0 v p (i + 1)) (hd : ¬ s.dg i + 1 < s.sz i) :
    Turning { s with dg := updF (updF s.dg i (s.dg i + 1)) i 0, pl := wrap64 (wrap64 (s.pl + s.st i) - wrap64 (s.sz i * s.st i)) } s0 v p i := by
  have hi : i < v.sh.length := h.le
  have hz := turn_dig hr hp hi
  have eN : v.sh.length - (i + 1) = v.sh.length - 1 - i := by omega
  have hrest := h.rest
  rw [eN] at hrest
  have ed := h.old i (by omega)
  have es := h.sz i hi
  have hd' : s.dg i + 1 = s.sz i := by have := hz.2.1; rw [← ed, ← es] at this; omega
  refine ⟨by omega, h.ax, h.sz, h.st, fun j hj => ?_, fun j h1 h2 => ?_, ?_, ?_, h.on, h.lf⟩
  · show updF (updF s.dg i (s.dg i + 1)) i 0 j = _
    rw [updF_ne _ _ (by omega), updF_ne _ _ (by omega)]
    exact h.old j (by omega)
  · show updF (updF s.dg i (s.dg i + 1)) i 0 j = _
    by_cases e : j = i
    · subst e
      rw [updF_at]
      rw [ed, es] at hd'
      unfold digE at *
      rw [hrest]
      generalize restE v.sh (p : Int) (v.sh.length - 1 - j) = r at *
      generalize v.sh.getD j 0 = z at *
      exact (succ_out hz.2.2.1 hd').2.symm
    · rw [updF_ne _ _ e, updF_ne _ _ e]
      exact h.new j (by omega) h2
  · show wrap64 (wrap64 (s.pl + s.st i) - wrap64 (s.sz i * s.st i)) = wrap64 (offD v.off s.st (updF (updF s.dg i (s.dg i + 1)) i 0) v.sh.length)
    rw [wrap_part, offD_put _ _ _ _ _ hi, offD_put _ _ _ _ _ hi, updF_at, h.pl, ← hd']
    generalize offD v.off s.st s.dg v.sh.length = x
    rw [show s.dg i + 1 - s.dg i = 1 by omega, Int.one_mul, Int.sub_mul, Int.zero_mul]
    generalize (s.dg i + 1) * s.st i = y
    have : wrap64 (wrap64 x + s.st i - y) = wrap64 (wrap64 x + (s.st i - y)) := by congr 1; omega
    rw [this, wrap_join]
    congr 1
    omega
  · rw [show v.sh.length - i = (v.sh.length - 1 - i) + 1 by omega, restE, restE, show v.sh.length - 1 - (v.sh.length - 1 - i) = i by omega, hrest]
    rw [ed, es] at hd'
    unfold digE at hd'
    generalize restE v.sh (p : Int) (v.sh.length - 1 - i) = r at *
    generalize v.sh.getD i 0 = z at *
    exact (succ_out hz.2.2.1 hd').1
end

/-! ### a walk along a view -/
/-- k cells are told; on: one last. -/
structure WalkOf (s : WalkS) (v : Vw) (k : Nat) (on : Bool) : Prop where
  on_ : s.on = on
  lf : s.lf = ((colL v).length : Int) - (k : Int)
  le : k ≤ (colL v).length
  yes : on = true → 0 < k
  no : on = false → k = 0 ∨ k = (colL v).length
  core : 0 < (colL v).length → Core s v (k - 1)
theorem col_right {v : Vw} (h : 0 < (colL v).length) : rightV v = true := by
  cases hr : rightV v with
  | true => rfl
  | false => rw [col_no hr] at h; simp at h
theorem col_length {v : Vw} (hr : rightV v = true) : ((colL v).length : Int) = prodL v.sh := by
  rw [col_yes hr]
  unfold offsL
  rw [cells_right hr]
  have := prod_nonneg (s := v.sh) fun z hz => ((right_all (full_all (rightV_all hr).1).1).1 z hz).1
  simp
  omega
theorem col_most (v : Vw) : (colL v).length ≤ 1048576 := by
  cases hr : rightV v with
  | false => rw [col_no hr]; simp
  | true => have := col_length hr; have := (full_all (rightV_all hr).1).2; omega
theorem col_get {v : Vw} {k : Nat} (hk : k < (colL v).length) : (colL v).getD k 0 = offE v (atL v.sh (k : Int)) v.sh.length := by
  have hr := col_right (v := v) (by omega)
  rw [col_yes hr] at hk ⊢
  unfold offsL at hk ⊢
  simp only [List.length_map, List.length_range] at hk
  simp [List.getD, hk]
theorem col_i64 {v : Vw} : ∀ z ∈ colL v, I64 z := by
  intro z hz
  obtain ⟨k, hk, rfl⟩ := List.getElem_of_mem hz
  have h := col_get hk
  have e : (colL v).getD k 0 = (colL v)[k] := by simp [List.getD, hk]
  rw [← e, h]
  have hr := col_right (v := v) (by omega)
  exact off_in hr (by have := col_length hr; omega)
section
variable {s : WalkS} {v : Vw} {k : Nat} {on : Bool}
theorem walk_more (h : WalkOf s v k on) (hl : s.lf ≠ 0) : k < (colL v).length := by have := h.lf; have := h.le; omega
theorem walk_over (h : WalkOf s v k on) (hl : s.lf = 0) : k = (colL v).length := by have := h.lf; have := h.le; omega
theorem walk_ends (h : WalkOf s v k on) (hl : s.lf = 0) : WalkOf { s with on := false } v k false :=
  ⟨rfl, h.lf, h.le, by simp, fun _ => .inr (walk_over h hl), fun h0 => ⟨(h.core h0).ax, (h.core h0).sz, (h.core h0).st, (h.core h0).dg, (h.core h0).pl⟩⟩
/-- behind a turn (or ahead of the first cell) one cell more is told. -/
theorem walk_goes {s' : WalkS} (h : WalkOf s v k on) (hk : k < (colL v).length) (hc : Core s' v k) (hl : s'.lf = s.lf) : WalkOf { s' with on := true, lf := s'.lf - 1 } v (k + 1) true ∧ s'.pl = (colL v).getD k 0 := by
  refine ⟨⟨rfl, ?_, hk, fun _ => by omega, by simp, fun _ => ⟨hc.ax, hc.sz, hc.st, hc.dg, hc.pl⟩⟩, ?_⟩
  · show s'.lf - 1 = _
    rw [hl, h.lf]
    omega
  · rw [col_get hk]
    exact hc.pl
theorem walk_first (h : WalkOf s v k false) (hk : k < (colL v).length) : k = 0 ∧ Core s v k := by
  obtain rfl : k = 0 := by rcases h.no rfl with e | e <;> omega
  exact ⟨rfl, h.core (by omega)⟩
theorem walk_then (h : WalkOf s v k true) (hk : k < (colL v).length) : Core s v (k - 1) ∧ ((k - 1 : Nat) : Int) + 1 < prodL v.sh ∧ k - 1 + 1 = k ∧ rightV v = true := by
  have h0 := h.yes rfl
  have hr := col_right (v := v) (by omega)
  have := col_length hr
  exact ⟨h.core (by omega), by omega, by omega, hr⟩
end
end Go.Proofs.Ytdjenakmdjiknaa
end

/-! Layer 9, the program's own: the walk in memory, its turn. -/
section
namespace Go.Proofs.Ytdjenakmdjiknaa
open Go.ChangeShapes Go.WideShapes Go.ChangeAt Go.RowKit Go.Shelf
set_option linter.unusedVariables false
set_option maxRecDepth 100000
attribute [local go_sem] Oper.semAt_some

/-- block b holds these cells, and then a walk. -/
def WalkB (w : World) (b : Nat) (t : TypeId) (pre : List Value) (s : WalkS) : Prop := Box w b t (pre ++ walkL s).toArray
section
variable {w w' : World} {b o : Nat} {t : TypeId} {pre : List Value} {s : WalkS}
theorem WalkB.get (h : WalkB w b t pre s) (ho : pre.length = o) (j : Nat) : w.cell? ⟨b, o + j, none⟩ = (walkL s)[j]? := by
  have := Box.get h (o + j)
  rw [this, ← ho, List.getElem?_toArray, List.getElem?_append_right (by omega), Nat.add_sub_cancel_left]
theorem WalkB.free (h : WalkB w b t pre s) (j : Nat) : w.frozen? ⟨b, j, none⟩ = false := Box.free h j
theorem WalkB.grown {row : Option Nat} (h : WalkB w b t pre s) (hg : w.grownBy w' row) (hne : some b ≠ row) : WalkB w' b t pre s := Box.grown h hg hne
theorem WalkB.put (h : WalkB w b t pre s) (ho : pre.length = o) {j : Nat} (u : Value) : Box (w.setCell ⟨b, o + j, none⟩ u) b t (pre ++ (walkL s).set j u).toArray := by
  subst ho
  have h1 := Box.put h (pre.length + j) u
  have e : (pre ++ walkL s).toArray.setIfInBounds (pre.length + j) u = (pre ++ (walkL s).set j u).toArray := by
    rw [List.setIfInBounds_toArray, List.set_append_right _ _ (by omega), Nat.add_sub_cancel_left]
  rw [e] at h1
  exact h1
theorem walkB_congr {s' : WalkS} (h : WalkB w b t pre s) (e : walkL s = walkL s') : WalkB w b t pre s' := by unfold WalkB at *; rw [← e]; exact h
theorem WalkB.put_dg (h : WalkB w b t pre s) (ho : pre.length = o) {i : Nat} (hi : i < 6) (z : Int) : WalkB (w.setCell ⟨b, o + 13 + i, none⟩ (.int .i64 z)) b t pre { s with dg := updF s.dg i z } := by
  have := h.put ho (j := 13 + i) (.int .i64 z)
  rw [walkL_put_dg s hi, ← Nat.add_assoc] at this
  exact this
theorem WalkB.put_pl (h : WalkB w b t pre s) (ho : pre.length = o) (z : Int) : WalkB (w.setCell ⟨b, o + 19, none⟩ (.int .i64 z)) b t pre { s with pl := z } := h.put ho (j := 19) _
theorem WalkB.put_on (h : WalkB w b t pre s) (ho : pre.length = o) (z : Bool) : WalkB (w.setCell ⟨b, o + 20, none⟩ (.bool z)) b t pre { s with on := z } := h.put ho (j := 20) _
theorem WalkB.put_lf (h : WalkB w b t pre s) (ho : pre.length = o) (z : Int) : WalkB (w.setCell ⟨b, o + 21, none⟩ (.int .i64 z)) b t pre { s with lf := z } := h.put ho (j := 21) _
theorem WalkB.get_sz (h : WalkB w b t pre s) (ho : pre.length = o) {i : Nat} (hi : i < 6) : w.cell? ⟨b, o + 1 + i, none⟩ = some (.int .i64 (s.sz i)) := by rw [Nat.add_assoc, h.get ho, walkL_sz s hi]
theorem WalkB.get_st (h : WalkB w b t pre s) (ho : pre.length = o) {i : Nat} (hi : i < 6) : w.cell? ⟨b, o + 7 + i, none⟩ = some (.int .i64 (s.st i)) := by rw [Nat.add_assoc, h.get ho, walkL_st s hi]
theorem WalkB.get_dg (h : WalkB w b t pre s) (ho : pre.length = o) {i : Nat} (hi : i < 6) : w.cell? ⟨b, o + 13 + i, none⟩ = some (.int .i64 (s.dg i)) := by rw [Nat.add_assoc, h.get ho, walkL_dg s hi]
end

theorem walk_info : (Try.prog.info? 62).map (·.size) = some 22 := by kernel_rfl
theorem walk_row : ∃ d, Try.prog.underlying 62 = some d ∧ d.isRow = true := ⟨_, Try.underlying62, rfl⟩
section
variable {w w' : World} {b o : Nat} {t : TypeId} {pre : List Value} {s : WalkS}
theorem WalkB.range (h : WalkB w b t pre s) (ho : pre.length = o) : w.rangeAt b o (walkL s) := fun j v hv => (h.get ho j).trans hv
theorem WalkB.there (h : WalkB w b t pre s) (ho : pre.length = o) : w.there b o 22 := fun j hj => by
  refine ⟨?_, h.free _⟩
  rw [h.get ho j, List.getElem?_eq_getElem (by rw [walkL_len]; exact hj)]
  rfl
theorem WalkB.whole (h : WalkB w b t pre s) (ho : pre.length = o) (z : WalkS) : WalkB (w.setCells b o (walkL z)) b t pre z ∧ w.grownBy (w.setCells b o (walkL z)) (some b) := by
  have key : ∀ (L1 L2 L3 : List Value) (w : World) (o : Nat), pre.length + L1.length = o → L2.length = L3.length → Box w b t (pre ++ L1 ++ L2).toArray → Box (w.setCells b o L3) b t (pre ++ L1 ++ L3).toArray ∧ w.grownBy (w.setCells b o L3) (some b) := by
    intro L1 L2 L3
    induction L3 generalizing L1 L2 with
    | nil =>
      intro w o h1 h2 h3
      obtain rfl : L2 = [] := List.eq_nil_of_length_eq_zero h2
      exact ⟨h3, grown_refl _ _⟩
    | cons x r ih =>
      intro w o h1 h2 h3
      cases L2 with
      | nil => simp at h2
      | cons y q =>
        have h4 := Box.put h3 o x
        have e : (pre ++ L1 ++ y :: q).toArray.setIfInBounds o x = (pre ++ (L1 ++ [x]) ++ q).toArray := by
          rw [List.setIfInBounds_toArray, List.set_append_right _ _ (by rw [List.length_append]; omega)]
          have : o - (pre ++ L1).length = 0 := by rw [List.length_append]; omega
          rw [this]
          simp
        rw [e] at h4
        have h5 := ih (L1 ++ [x]) q (w.setCell ⟨b, o, none⟩ x) (o + 1) (by simp; omega) (by simpa using h2) h4
        rw [show pre ++ (L1 ++ [x]) ++ r = pre ++ L1 ++ x :: r by simp] at h5
        exact ⟨h5.1, grown_join (grown_put (grown_refl _ _) (.inl rfl) _) h5.2 (.inl rfl)⟩
  have h1 := key [] (walkL s) (walkL z) w o (by simpa using ho) rfl (by rw [List.append_nil]; exact h)
  rw [List.append_nil] at h1
  exact h1
end
section
variable {ops : Array Oper} {rest : List Oper} {op : Oper} {a : Act} {w : World} {Q : Exit → Act → World → Prop} {b o : Nat} {t : TypeId} {pre : List Value} {s : WalkS}
theorem load_walk (hgd : op.guard = none) (x : Operand) (hop : op.op = .load 62 x) (hx : a.eval x = .pointer (some ⟨b, o, none⟩)) (h : WalkB w b t pre s) (ho : pre.length = o)
    (hk : wpList Try.prog ops Q rest (a.put op.dst (.agg (walkL s).toArray)) w) : wpList Try.prog ops Q (op :: rest) a w := by
  obtain ⟨d, h1, h2⟩ := walk_row
  exact wpList_load_mid hgd _ x hop b o hx (walkL s) d (h.range ho) h1 h2 walk_info hk
theorem store_walk (hgd : op.guard = none) (x y : Operand) (hop : op.op = .store 62 x y) (z : WalkS) (hx : a.eval x = .pointer (some ⟨b, o, none⟩)) (hy : a.eval y = .agg (walkL z).toArray) (h : WalkB w b t pre s) (ho : pre.length = o)
    (hk : ∀ w', Hid (WalkB w' b t pre z) → Hid (w.grownBy w' (some b)) → wpList Try.prog ops Q rest (a.put op.dst undef) w') : wpList Try.prog ops Q (op :: rest) a w :=
  wpList_store_mid hgd _ x y hop b o _ hx hy (h.there ho) walk_info (all_oneCell_toArray (walkL_one z)) (hk _ (Lib.hid (h.whole ho z).1) (Lib.hid (h.whole ho z).2))
theorem fresh_walk (w : World) : WalkB (w.alloc (.cells (walkL zeroW).toArray 62)) w.heap.size 62 [] zeroW := Box.fresh _ _ _
end

set_option maxHeartbeats 4000000 in
theorem own9_turn (b o : Nat) (t : TypeId) (pre : List Value) (s : WalkS) (v : Vw) (p : Nat) (w : World) (ho : pre.length = o) (h : WalkB w b t pre s) (hc : Core s v p) (hr : rightV v = true) (hp : (p : Int) + 1 < prodL v.sh) :
    Calls Try.prog 54 #[.pointer (some ⟨b, o, none⟩)] w fun e w' => (∃ x, e = .returned x) ∧ (∃ s', WalkB w' b t pre s' ∧ Core s' v (p + 1) ∧ s'.on = s.on ∧ s'.lf = s.lf) ∧ w.grownBy w' (some b) := by
  have HO := Lib.hid ho
  have H := Lib.hid h
  have HR := Lib.hid hr
  have HP := Lib.hid hp
  have h6 := rightV_dims hr
  have HS := Lib.hid (turn_start hr hp hc)
  obtain ⟨n, hn⟩ : ∃ n, n = v.sh.length := ⟨_, rfl⟩
  have a0 := h.get ho 0
  have m0 : IntKind.i64.wrap ((n : Int) - 1) = (n : Int) - 1 := IntWalk.i64_in _ (by omega)
  have HN := Lib.hid hn
  have HAX := Lib.hid hc.ax
  rw [← hn] at h6 HAX
  rw [Nat.add_zero] at a0
  have e0 : (walkL s)[0]? = some (.int .i64 (n : Int)) := by rw [← HAX.out]; rfl
  rw [e0] at a0
  clear h hc hr hp ho hn e0
  refine (callsIn_wide (n := 9)).1 ?_
  refine callsIn_of_wp Try.func54 rfl trivial ?_ rfl
  simp only [Try.ntmps54, List.size_toArray, List.length_cons, List.length_nil, Nat.reduceAdd, Nat.reduceSub, Array.replicate_succ, Array.replicate_zero, List.push_toArray, List.append_toArray, List.nil_append, List.cons_append]
  gi_wp2
  gi_loopw [2] (fun i wr => ∃ (m : Nat) (s' : WalkS), i = .int .i64 ((m : Int) - 1) ∧ m ≤ n ∧ WalkB wr b t pre s' ∧ Turning s' s v p m ∧ w.grownBy wr (some b)) (fun i wr => ((intOf i) + 1).toNat)
  case atStart => exact ⟨n, s, rfl, Nat.le_refl _, H.out, by rw [HN.out]; exact HS.out, grown_refl _ _⟩
  case round =>
    obtain ⟨m, s', rfl, hm, hb, ht, hg⟩ := hrel
    cases m with
    | zero => exact absurd (turn_end HR.out HP.out ht) id
    | succ i =>
      have e1 : ((i + 1 : Nat) : Int) - 1 = (i : Int) := by omega
      rw [e1]
      have hi : i < 6 := by omega
      have d0 : decide ((0 : Int) ≤ (i : Int)) = true := decide_eq_true (by omega)
      have HB := Lib.hid hb
      have HT := Lib.hid ht
      have HG := Lib.hid hg
      have hD := turn_dig HR.out HP.out (show i < v.sh.length by have := ht.le; omega)
      rw [← ht.old i (by omega), ← ht.sz i (by have := ht.le; omega)] at hD
      have m1 : wrap64 (s'.dg i + 1) = s'.dg i + 1 := IntWalk.wrap64_in _ (by omega)
      have a1 := hb.get_dg HO.out hi
      have a2 := hb.free (o + 13 + i)
      have q1 : (0 : Int) ≤ (i : Int) := Int.natCast_nonneg i
      have q2 : (i : Int) < 6 := by omega
      clear hb ht hg
      gi_wp2
      refine region_last rfl (by kernel_rfl) (by kernel_rfl) (by kernel_rfl) ?_
      dsimp only [aheadL, lastL]
      repeat (gi_big_quiet_step (fail))
      refine wpQuietIn_nil ?_
      rintro _ ⟨nq, rfl⟩
      gi_wp2
      obtain ⟨w3, hw3⟩ : ∃ w3, w3 = (wr.drewN nq).setCell ⟨b, o + 13 + i, none⟩ (.int .i64 (s'.dg i + 1)) := ⟨_, rfl⟩
      rw [← hw3]
      have HG3 := Lib.hid (show w.grownBy w3 (some b) by rw [hw3]; exact grown_put (grown_drewN HG.out _) (.inl rfl) _)
      have HB3 := Lib.hid (show WalkB w3 b t pre { s' with dg := updF s'.dg i (s'.dg i + 1) } by rw [hw3]; exact WalkB.put_dg (w := wr.drewN nq) HB.out HO.out hi _)
      clear hw3 a1 a2
      have a1 : w3.cell? ⟨b, o + 19, none⟩ = some (.int .i64 s'.pl) := HB3.out.get HO.out 19
      have a2 : w3.cell? ⟨b, o + 7 + i, none⟩ = some (.int .i64 (s'.st i)) := HB3.out.get_st HO.out hi
      have a3 := HB3.out.free (o + 19)
      refine region_last rfl (by kernel_rfl) (by kernel_rfl) (by kernel_rfl) ?_
      dsimp only [aheadL, lastL]
      repeat (gi_big_quiet_step (fail))
      refine wpQuietIn_nil ?_
      rintro _ ⟨nq2, rfl⟩
      gi_wp2
      obtain ⟨w4, hw4⟩ : ∃ w4, w4 = (w3.drewN nq2).setCell ⟨b, o + 19, none⟩ (.int .i64 (wrap64 (s'.pl + s'.st i))) := ⟨_, rfl⟩
      rw [← hw4]
      have HG4 := Lib.hid (show w.grownBy w4 (some b) by rw [hw4]; exact grown_put (grown_drewN HG3.out _) (.inl rfl) _)
      have HB4 := Lib.hid (show WalkB w4 b t pre { s' with dg := updF s'.dg i (s'.dg i + 1), pl := wrap64 (s'.pl + s'.st i) } by rw [hw4]; exact WalkB.put_pl (w := w3.drewN nq2) HB3.out HO.out _)
      clear hw4 a1 a2 a3
      have a1 : w4.cell? ⟨b, o + 13 + i, none⟩ = some (.int .i64 (s'.dg i + 1)) := by
        rw [HB4.out.get_dg HO.out hi]
        exact congrArg (fun z => some (Value.int .i64 z)) (updF_at _ _ _)
      have a2 : w4.cell? ⟨b, o + 1 + i, none⟩ = some (.int .i64 (s'.sz i)) := HB4.out.get_sz HO.out hi
      refine region_last rfl (by kernel_rfl) (by kernel_rfl) (by kernel_rfl) ?_
      dsimp only [aheadL, lastL]
      repeat (gi_big_quiet_step (fail))
      refine wpQuietIn_nil ?_
      rintro _ ⟨nq3, rfl⟩
      by_cases hd : s'.dg i + 1 < s'.sz i
      · have HC := Lib.hid (turn_go HR.out HP.out HT.out hd)
        have dd : decide (s'.dg i + 1 < s'.sz i) = true := decide_eq_true hd
        clear hd
        gi_wp2
        refine bodyPost_ret (results_none rfl _ _ _) rfl ?_
        exact ⟨⟨_, rfl⟩, ⟨_, HB4.out, HC.out, HT.out.on, HT.out.lf⟩, grown_drewN HG4.out _⟩
      · have HC := Lib.hid (turn_next HR.out HP.out HT.out hd)
        have dd : decide (s'.dg i + 1 < s'.sz i) = false := decide_eq_false hd
        clear hd
        have a3 : w4.cell? ⟨b, o + 19, none⟩ = some (.int .i64 (wrap64 (s'.pl + s'.st i))) := HB4.out.get HO.out 19
        have a4 : w4.cell? ⟨b, o + 7 + i, none⟩ = some (.int .i64 (s'.st i)) := HB4.out.get_st HO.out hi
        have a5 := HB4.out.free (o + 19)
        gi_wp2
        refine region_last rfl (by kernel_rfl) (by kernel_rfl) (by kernel_rfl) ?_
        dsimp only [aheadL, lastL]
        repeat (gi_big_quiet_step (fail))
        refine wpQuietIn_nil ?_
        rintro _ ⟨nq4, rfl⟩
        have a6 := HB4.out.free (o + 13 + i)
        gi_wp2
        have HB5 := Lib.hid (show WalkB ((w4.drewN (nq3 + nq4)).setCell ⟨b, o + 19, none⟩ (.int .i64 (wrap64 (wrap64 (s'.pl + s'.st i) - wrap64 (s'.sz i * s'.st i))))) b t pre { s' with dg := updF s'.dg i (s'.dg i + 1), pl := wrap64 (wrap64 (s'.pl + s'.st i) - wrap64 (s'.sz i * s'.st i)) } from WalkB.put_pl (w := w4.drewN (nq3 + nq4)) HB4.out HO.out _)
        have HB6 := Lib.hid (HB5.out.put_dg HO.out hi 0)
        have HG6 := Lib.hid (show w.grownBy (((w4.drewN (nq3 + nq4)).setCell ⟨b, o + 19, none⟩ (.int .i64 (wrap64 (wrap64 (s'.pl + s'.st i) - wrap64 (s'.sz i * s'.st i))))).setCell ⟨b, o + 13 + i, none⟩ (.int .i64 0)) (some b) from grown_put (grown_put (grown_drewN HG4.out _) (.inl rfl) _) (.inl rfl) _)
        go_roundw
        case rel => exact ⟨i, _, by go_num, by omega, HB6.out, HC.out, HG6.out⟩
        case measure => simp [intOf]

def NextW (b : Nat) (t : TypeId) (pre : List Value) (v : Vw) (k : Nat) (w : World) (e : Ending) (w' : World) : Prop :=
  w.grownBy w' (some b) ∧ ((k < (colL v).length ∧ e = .returned (.tuple #[.int .i64 ((colL v).getD k 0), .bool true]) ∧ ∃ s', WalkB w' b t pre s' ∧ WalkOf s' v (k + 1) true) ∨
    (¬ k < (colL v).length ∧ e = .returned (.tuple #[.int .i64 0, .bool false]) ∧ ∃ s', WalkB w' b t pre s' ∧ WalkOf s' v k false))
set_option maxHeartbeats 4000000 in
theorem own9_next (b o : Nat) (t : TypeId) (pre : List Value) (s : WalkS) (v : Vw) (k : Nat) (on : Bool) (w : World) (ho : pre.length = o) (h : WalkB w b t pre s) (hw : WalkOf s v k on) :
    Calls Try.prog 39 #[.pointer (some ⟨b, o, none⟩)] w (NextW b t pre v k w) := by
  have HO := Lib.hid ho
  have H := Lib.hid h
  have HW := Lib.hid hw
  have a0 : w.cell? ⟨b, o + 21, none⟩ = some (.int .i64 s.lf) := h.get ho 21
  have a1 := h.free (o + 20)
  have a2 : w.cell? ⟨b, o + 20, none⟩ = some (.bool s.on) := h.get ho 20
  rw [hw.on_] at a2
  clear h ho
  by_cases hl : s.lf = 0
  · have HE := Lib.hid (walk_ends hw hl)
    have HK := Lib.hid (show ¬ k < (colL v).length by rw [walk_over hw hl]; omega)
    have d0 : (s.lf == 0) = true := by simp [hl]
    clear hl hw
    go_enter Try.func39, Try.ntmps39
    go_wp2_with fail
    go_ret2
    exact ⟨grown_put (grown_refl _ _) (.inl rfl) _, .inr ⟨HK.out, rfl, _, H.out.put_on HO.out false, HE.out⟩⟩
  · have hk := walk_more hw hl
    have HK := Lib.hid hk
    have d0 : (s.lf == 0) = false := by simp [hl]
    have hlf := hw.lf
    have hsm := col_most v
    have hle := hw.le
    have m1 : IntKind.i64.wrap (s.lf - 1) = s.lf - 1 := IntWalk.i64_in _ (by omega)
    have m2 : wrap64 (s.lf - 1) = s.lf - 1 := IntWalk.wrap64_in _ (by omega)
    cases on with
    | false =>
      have HC := Lib.hid (walk_first hw hk)
      have HF := Lib.hid (walk_goes hw hk HC.out.2 rfl)
      have a3 : w.cell? ⟨b, o + 19, none⟩ = some (.int .i64 s.pl) := H.out.get HO.out 19
      have a4 := H.out.free (o + 21)
      clear hl hw hk hlf hsm hle
      go_enter Try.func39, Try.ntmps39
      go_wp2_with fail
      go_ret2
      refine ⟨grown_put (grown_put (grown_refl _ _) (.inl rfl) _) (.inl rfl) _, .inl ⟨HK.out, ?_, _, (H.out.put_on HO.out true).put_lf HO.out _, HF.out.1⟩⟩
      exact congrArg (fun z => Ending.returned (.tuple #[.int .i64 z, .bool true])) HF.out.2
    | true =>
      obtain ⟨hc, hp, hk1, hr⟩ := walk_then hw hk
      have HT := Lib.hid (own9_turn b o t pre s v (k - 1) w HO.out H.out hc hr hp)
      rw [hk1] at HT
      clear hl hc hp hk1 hr hk hlf hsm hle hw
      go_enter Try.func39, Try.ntmps39
      go_wp2_with fail
      refine HT.out.mono ?_
      rintro e w2 ⟨⟨x, rfl⟩, ⟨s', hb, hc, h1, h2⟩, hg⟩
      have HB := Lib.hid hb
      have HG := Lib.hid hg
      have HF := Lib.hid (walk_goes HW.out HK.out hc h2)
      have a3 : w2.cell? ⟨b, o + 19, none⟩ = some (.int .i64 s'.pl) := hb.get HO.out 19
      have a4 : w2.cell? ⟨b, o + 21, none⟩ = some (.int .i64 s'.lf) := hb.get HO.out 21
      rw [← h2] at m1 m2
      have a5 := hb.free (o + 20)
      have a6 := hb.free (o + 21)
      have a7 : w2.cell? ⟨b, o + 20, none⟩ = some (.bool s'.on) := hb.get HO.out 20
      clear hb hc h1 h2 hg a0 a1 a2 d0
      go_wp2_with fail
      go_ret2
      refine ⟨grown_put (grown_put HG.out (.inl rfl) _) (.inl rfl) _, .inl ⟨HK.out, ?_, _, (HB.out.put_on HO.out true).put_lf HO.out _, HF.out.1⟩⟩
      exact congrArg (fun z => Ending.returned (.tuple #[.int .i64 z, .bool true])) HF.out.2
end Go.Proofs.Ytdjenakmdjiknaa
end

/-! Layer 7: the reference's With. -/
section
namespace Go.Proofs.Ytdjenakmdjiknaa
open Go.ChangeShapes Go.WideShapes Go.ChangeAt Go.RowKit
set_option linter.unusedVariables false
set_option maxRecDepth 100000

end Go.Proofs.Ytdjenakmdjiknaa
end

/-! Layer 7: what the walks ask of the program's own shape; the law package's ints, knows. -/
section
namespace Go.Proofs.Ytdjenakmdjiknaa
open Go.ChangeShapes Go.WideShapes Go.ChangeAt Go.RowKit
set_option linter.unusedVariables false
set_option maxRecDepth 100000

theorem ints_eq7 {l l' : List Int} (hl : l.length = l'.length) (h : ∀ i, i < l.length → l.getD i 0 = l'.getD i 0) : l = l' := by
  apply List.ext_getElem hl
  intro i h1 h2
  have := h i h1
  simpa [List.getD, h1, h2] using this
/-! ### what is asked of the program's own -/
theorem atL_short (s : List Int) (p : Int) : (atL s p).length ≤ s.length := by unfold atL; split <;> simp
theorem str_short (s : List Int) : (stridesL s).length ≤ s.length := by unfold stridesL; split <;> simp
theorem without_short (s : List Int) (x : Int) : (withoutL s x).length ≤ s.length := by
  unfold withoutL
  split
  · rw [List.length_append, List.length_take, List.length_drop]; omega
  · simp
theorem with_short (s : List Int) (x y : Int) : (withL s x y).length ≤ s.length + 1 := by
  unfold withL
  split
  · rw [List.length_append, List.length_append, List.length_take, List.length_drop, List.length_singleton]; omega
  · simp
theorem perm_short (s t : List Int) : (permL s t).length ≤ t.length := by unfold permL; split <;> simp
theorem join_short (s t : List Int) : (joinL s t).length ≤ s.length := by unfold joinL; split <;> simp

/-! ### knows -/
theorem lit_numsF (w : World) (zs : List Int) (hz : zs.length ≤ 1048576) : NumsF (w.alloc (.cells (intV zs).toArray 3)) (some ⟨w.heap.size, 0, none⟩) zs.length zs.length zs := by
  have ho : OwnI (w.alloc (.cells (intV zs).toArray 3)) 0 (some ⟨w.heap.size, 0, none⟩) zs.length zs.length zs :=
    ⟨rfl, by simp [intV], .inr ⟨w.heap.size, zs.length, (intV zs).toArray, rfl, Nat.zero_le _, heap_alloc_new w _, Nat.le_refl _, by unfold maxLen; omega, by simp [intV], by rw [Nat.mul_one]; exact List.take_of_length_le (by simp [intV])⟩⟩
  exact ho.numsF
theorem two_numsF (w : World) (x y : Int) : NumsF (w.alloc (.cells #[.int .i64 x, .int .i64 y] 3)) (some ⟨w.heap.size, 0, none⟩) 2 2 [x, y] := lit_numsF w [x, y] (by simp)
theorem kn7_place : placeV [2, 3] [1, 2] = 5 ∧ placeB [2, 3] [1, 2] = true := by decide +kernel
theorem kn7_size : sizeV [2, 3] 6 = 6 ∧ sizeB [2, 3] 6 = true := by decide +kernel
theorem kn7_str : stridesL [2, 3] = [3, 1] := by decide +kernel
end Go.Proofs.Ytdjenakmdjiknaa
end

/-! Layer 7, the program's own: fits, reaches, named, every, Right, Has, Size. -/
section
namespace Go.Proofs.Ytdjenakmdjiknaa
open Go.ChangeShapes Go.WideShapes Go.ChangeAt Go.RowKit
set_option linter.unusedVariables false
set_option maxRecDepth 100000

theorem own7_fits (x z : Int) (w : World) : Calls Try.prog 63 #[.int .i64 x, .int .i64 z] w fun e w' => e = .returned (.bool (decide (0 ≤ z ∧ z ≤ 1048576))) ∧ w' = w := by
  by_cases h0 : 0 ≤ z
  · by_cases h1 : z ≤ 1048576
    · have d0 : decide (0 ≤ z) = true := decide_eq_true h0
      have d1 : decide (z ≤ 1048576) = true := decide_eq_true h1
      have HB := Lib.hid (decide_eq_true (show 0 ≤ z ∧ z ≤ 1048576 from ⟨h0, h1⟩))
      go_enter Try.func63, Try.ntmps63
      go_wp2
      go_ret
      first | exact ⟨congrArg (fun b => Ending.returned (.bool b)) HB.out.symm, rfl⟩ | exact ⟨rfl, rfl⟩
    · have d0 : decide (0 ≤ z) = true := decide_eq_true h0
      have d1 : decide (z ≤ 1048576) = false := decide_eq_false h1
      have HB := Lib.hid (decide_eq_false (show ¬ (0 ≤ z ∧ z ≤ 1048576) from fun h => h1 h.2))
      go_enter Try.func63, Try.ntmps63
      go_wp2
      go_ret
      first | exact ⟨congrArg (fun b => Ending.returned (.bool b)) HB.out.symm, rfl⟩ | exact ⟨rfl, rfl⟩
  · have d0 : decide (0 ≤ z) = false := decide_eq_false h0
    have HB := Lib.hid (decide_eq_false (show ¬ (0 ≤ z ∧ z ≤ 1048576) from fun h => h0 h.1))
    go_enter Try.func63, Try.ntmps63
    go_wp2
    go_ret
    first | exact ⟨congrArg (fun b => Ending.returned (.bool b)) HB.out.symm, rfl⟩ | exact ⟨rfl, rfl⟩
theorem own7_named (A : Option Addr) (n c : Nat) (x : Int) (w : World) : Calls Try.prog 67 #[.slice A n c, .int .i64 x] w fun e w' => e = .returned (.bool (decide (0 ≤ x ∧ x < n))) ∧ w' = w := by
  by_cases h0 : 0 ≤ x
  · by_cases h1 : x < n
    · have d0 : decide (0 ≤ x) = true := decide_eq_true h0
      have d1 : decide (x < (n : Int)) = true := decide_eq_true h1
      have HB := Lib.hid (decide_eq_true (show 0 ≤ x ∧ x < n from ⟨h0, h1⟩))
      go_enter Try.func67, Try.ntmps67
      go_wp2
      go_ret
      first | exact ⟨congrArg (fun b => Ending.returned (.bool b)) HB.out.symm, rfl⟩ | exact ⟨rfl, rfl⟩
    · have d0 : decide (0 ≤ x) = true := decide_eq_true h0
      have d1 : decide (x < (n : Int)) = false := decide_eq_false h1
      have HB := Lib.hid (decide_eq_false (show ¬ (0 ≤ x ∧ x < n) from fun h => h1 h.2))
      go_enter Try.func67, Try.ntmps67
      go_wp2
      go_ret
      first | exact ⟨congrArg (fun b => Ending.returned (.bool b)) HB.out.symm, rfl⟩ | exact ⟨rfl, rfl⟩
  · have d0 : decide (0 ≤ x) = false := decide_eq_false h0
    have HB := Lib.hid (decide_eq_false (show ¬ (0 ≤ x ∧ x < n) from fun h => h0 h.1))
    go_enter Try.func67, Try.ntmps67
    go_wp2
    go_ret
    first | exact ⟨congrArg (fun b => Ending.returned (.bool b)) HB.out.symm, rfl⟩ | exact ⟨rfl, rfl⟩
theorem own7_reaches (A : Option Addr) (n c B i : Nat) (s : List Int) (z : Int) (w : World) (h : Nums w B A n s) (hi : i < n) (hn : n ≤ 1048576) :
    Calls Try.prog 56 #[.slice A n c, .int .i64 i, .int .i64 z] w fun e w' => e = .returned (.bool (decide (0 ≤ z ∧ z < s.getD i 0))) ∧ w' = w := by
  obtain ⟨b, off, rfl, _, hc⟩ := h.2.at_ hi
  clear h
  generalize s.getD i 0 = v at *
  by_cases h0 : 0 ≤ z
  · by_cases h1 : z < v
    · have d0 : decide (0 ≤ z) = true := decide_eq_true h0
      have d1 : decide (z < v) = true := decide_eq_true h1
      have HB := Lib.hid (decide_eq_true (show 0 ≤ z ∧ z < v from ⟨h0, h1⟩))
      go_enter Try.func56, Try.ntmps56
      go_wp2
      go_ret
      first | exact ⟨congrArg (fun b => Ending.returned (.bool b)) HB.out.symm, rfl⟩ | exact ⟨rfl, rfl⟩
    · have d0 : decide (0 ≤ z) = true := decide_eq_true h0
      have d1 : decide (z < v) = false := decide_eq_false h1
      have HB := Lib.hid (decide_eq_false (show ¬ (0 ≤ z ∧ z < v) from fun h => h1 h.2))
      go_enter Try.func56, Try.ntmps56
      go_wp2
      go_ret
      first | exact ⟨congrArg (fun b => Ending.returned (.bool b)) HB.out.symm, rfl⟩ | exact ⟨rfl, rfl⟩
  · have d0 : decide (0 ≤ z) = false := decide_eq_false h0
    have HB := Lib.hid (decide_eq_false (show ¬ (0 ≤ z ∧ z < v) from fun h => h0 h.1))
    go_enter Try.func56, Try.ntmps56
    go_wp2
    go_ret
    first | exact ⟨congrArg (fun b => Ending.returned (.bool b)) HB.out.symm, rfl⟩ | exact ⟨rfl, rfl⟩
/-- it is so of all numbers, each with its place. -/
def everyB (s : List Int) (n : Nat) (so : Nat → Int → Bool) : Bool := decide (∀ i, i < n → so i (s.getD i 0) = true)
theorem every_no {s : List Int} {n : Nat} {so : Nat → Int → Bool} {k : Nat} (hk : k < n) (h : so k (s.getD k 0) = false) : everyB s n so = false := decide_eq_false fun hh => by
  have := hh k hk
  rw [h] at this
  cases this
def fitS : Nat → Int → Bool := fun _ z => decide (0 ≤ z ∧ z ≤ 1048576)
def reachS (t : List Int) : Nat → Int → Bool := fun i z => decide (0 ≤ z ∧ z < t.getD i 0)
set_option maxHeartbeats 1000000 in
theorem own7_every_fits (A : Option Addr) (n c B : Nat) (s : List Int) (w : World) (h : Nums w B A n s) (hn : n ≤ 1048576) :
    Calls Try.prog 55 #[.slice A n c, (.func (.func 63) #[] #[])] w fun e w' => e = .returned (.bool (everyB s n fitS)) ∧ w' = w := by
  have H := Lib.hid h
  have HF := Lib.hid (fun (k : Nat) (hk : k < n) (z : Int) => (show Calls Try.prog 63 #[.int .i64 k, .int .i64 z] w fun e w' => e = .returned (.bool (fitS k z)) ∧ w' = w from own7_fits k z w))
  have HE := Lib.hid (fun (k : Nat) (hk : k < n) (hh : fitS k (s.getD k 0) = false) => every_no (n := n) hk hh)
  have HY := Lib.hid (show (∀ i, i < n → fitS i (s.getD i 0) = true) → everyB s n fitS = true from fun hh => decide_eq_true hh)
  clear h
  go_enter Try.func55, Try.ntmps55
  go_wp2
  go_loop [9] (fun i => ∃ k : Nat, k ≤ n ∧ i = .int .i64 k ∧ ∀ j, j < k → fitS j (s.getD j 0) = true) (fun i => n - (intOf i).toNat)
  case atStart => exact ⟨0, Nat.zero_le _, rfl, fun j hj => by omega⟩
  case round =>
    obtain ⟨k, hk, rfl, hq⟩ := hrel
    have HQ := Lib.hid hq
    clear hq
    by_cases hlt : k < n
    · obtain ⟨b, off, rfl, _, hc⟩ := H.out.2.at_ hlt
      have HC := Lib.hid (HF.out k hlt (s.getD k 0))
      have HNO := Lib.hid (HE.out k hlt)
      have HNX := Lib.hid (show fitS k (s.getD k 0) = true → ∀ j, j < k + 1 → fitS j (s.getD j 0) = true from fun hb j hj => by
        by_cases hjk : j = k
        · subst hjk; exact hb
        · exact HQ.out j (by omega))
      generalize s.getD k 0 = v at *
      go_wp2_with fail
      refine HC.out.mono ?_
      rintro e w1 ⟨rfl, rfl⟩
      clear HC
      generalize fitS k v = ok at *
      cases ok with
      | true =>
        go_wp2
        go_round
        case rel => exact ⟨k + 1, by omega, by go_num, HNX.out (by first | rfl | trivial)⟩
        case measure => simp [intOf]; omega
      | false =>
        go_wp2
        go_ret
        exact ⟨congrArg (fun b => Ending.returned (.bool b)) (HNO.out (by first | rfl | trivial)).symm, rfl⟩
    · obtain rfl : k = n := by omega
      go_wp2
      go_ret
      exact ⟨congrArg (fun b => Ending.returned (.bool b)) (HY.out HQ.out).symm, rfl⟩
set_option maxHeartbeats 1000000 in
theorem own7_every_reaches (A : Option Addr) (n c B : Nat) (s : List Int) (A' : Option Addr) (c' B' : Nat) (t : List Int) (w : World) (h : Nums w B A n s) (hn : n ≤ 1048576) (h' : Nums w B' A' n t) :
    Calls Try.prog 55 #[.slice A n c, (.func (.func 56) #[.slice A' n c'] #[])] w fun e w' => e = .returned (.bool (everyB s n (reachS t))) ∧ w' = w := by
  have H := Lib.hid h
  have HF := Lib.hid (fun (k : Nat) (hk : k < n) (z : Int) => (show Calls Try.prog 56 #[.slice A' n c', .int .i64 k, .int .i64 z] w fun e w' => e = .returned (.bool (reachS t k z)) ∧ w' = w from own7_reaches A' n c' B' k t z w h' (by omega) (by omega)))
  have HE := Lib.hid (fun (k : Nat) (hk : k < n) (hh : (reachS t) k (s.getD k 0) = false) => every_no (n := n) hk hh)
  have HY := Lib.hid (show (∀ i, i < n → (reachS t) i (s.getD i 0) = true) → everyB s n (reachS t) = true from fun hh => decide_eq_true hh)
  clear h
  go_enter Try.func55, Try.ntmps55
  go_wp2
  go_loop [9] (fun i => ∃ k : Nat, k ≤ n ∧ i = .int .i64 k ∧ ∀ j, j < k → (reachS t) j (s.getD j 0) = true) (fun i => n - (intOf i).toNat)
  case atStart => exact ⟨0, Nat.zero_le _, rfl, fun j hj => by omega⟩
  case round =>
    obtain ⟨k, hk, rfl, hq⟩ := hrel
    have HQ := Lib.hid hq
    clear hq
    by_cases hlt : k < n
    · obtain ⟨b, off, rfl, _, hc⟩ := H.out.2.at_ hlt
      have HC := Lib.hid (HF.out k hlt (s.getD k 0))
      have HNO := Lib.hid (HE.out k hlt)
      have HNX := Lib.hid (show (reachS t) k (s.getD k 0) = true → ∀ j, j < k + 1 → (reachS t) j (s.getD j 0) = true from fun hb j hj => by
        by_cases hjk : j = k
        · subst hjk; exact hb
        · exact HQ.out j (by omega))
      generalize s.getD k 0 = v at *
      go_wp2_with fail
      refine HC.out.mono ?_
      rintro e w1 ⟨rfl, rfl⟩
      clear HC
      generalize reachS t k v = ok at *
      cases ok with
      | true =>
        go_wp2
        go_round
        case rel => exact ⟨k + 1, by omega, by go_num, HNX.out (by first | rfl | trivial)⟩
        case measure => simp [intOf]; omega
      | false =>
        go_wp2
        go_ret
        exact ⟨congrArg (fun b => Ending.returned (.bool b)) (HNO.out (by first | rfl | trivial)).symm, rfl⟩
    · obtain rfl : k = n := by omega
      go_wp2
      go_ret
      exact ⟨congrArg (fun b => Ending.returned (.bool b)) (HY.out HQ.out).symm, rfl⟩
theorem fit_right {s : List Int} {n : Nat} (hn : s.length = n) (h6 : n ≤ 6) : everyB s n fitS = rightS s := by
  subst hn
  cases hb : everyB s s.length fitS with
  | true => exact right_by (fun i hi => of_decide_eq_true (of_decide_eq_true hb i hi)) (by rw [eq_comm, decide_eq_true_eq]; exact h6)
  | false =>
    cases hr : rightS s with
    | false => rfl
    | true =>
      have := of_decide_eq_false hb
      exact absurd (fun i hi => decide_eq_true (right_at hr hi)) this
theorem right_long {s : List Int} {n : Nat} (hn : s.length = n) (h6 : ¬ n ≤ 6) : rightS s = false := decide_eq_false fun h => by rw [hn] at h; exact h6 h.2
theorem reach_has {s t : List Int} {n : Nat} (hr : rightS s = true) (hn : t.length = n) (hs : s.length = n) : everyB t n (reachS s) = hasB s t := by
  subst hn
  cases hb : everyB t t.length (reachS s) with
  | true => exact (has_by hr hs.symm fun i hi => of_decide_eq_true (of_decide_eq_true hb i (by omega))).symm
  | false =>
    have := of_decide_eq_false hb
    exact (has_not fun h => this fun i hi => decide_eq_true (h.2.2 i (by omega))).symm
theorem own7_right (A : Option Addr) (n c B : Nat) (s : List Int) (w : World) (h : Nums w B A n s) (hn : n ≤ 1048576) :
    Calls Try.prog 51 #[.slice A n c] w fun e w' => e = .returned (.bool (rightS s)) ∧ w' = w := by
  have HE := Lib.hid (own7_every_fits A n c B s w h hn)
  have hl := h.1
  clear h
  by_cases h6 : n ≤ 6
  · have d0 : decide ((n : Int) ≤ 6) = true := decide_eq_true (by omega)
    have d1 : decide (n ≤ 6) = true := decide_eq_true h6
    have HR := Lib.hid (fit_right hl h6)
    clear hl h6
    go_enter Try.func51, Try.ntmps51
    go_wp2_with fail
    refine HE.out.mono ?_
    rintro e w1 ⟨rfl, rfl⟩
    rw [HR.out]
    go_wp2_with fail
    go_ret
    first | exact ⟨rfl, rfl⟩ | (simp; done)
  · have d0 : decide ((n : Int) ≤ 6) = false := decide_eq_false (by omega)
    have d1 : decide (n ≤ 6) = false := decide_eq_false h6
    have HR := Lib.hid (right_long hl h6)
    clear hl h6
    go_enter Try.func51, Try.ntmps51
    go_wp2_with fail
    go_ret
    exact ⟨by rw [HR.out]; rfl, rfl⟩
set_option maxHeartbeats 1000000 in
theorem own7_has (A A' : Option Addr) (n c B n' c' B' : Nat) (s t : List Int) (w : World) (h : Nums w B A n s) (h' : Nums w B' A' n' t) (hn : n ≤ 1048576) (hn' : n' ≤ 1048576) :
    Calls Try.prog 40 #[.slice A n c, .slice A' n' c'] w fun e w' => e = .returned (.bool (hasB s t)) ∧ w' = w := by
  have HR := Lib.hid (own7_right A n c B s w h hn)
  have hl := h.1
  have hl' := h'.1
  cases hr : rightS s with
  | false =>
    rw [hr] at HR
    have HN := Lib.hid (show hasB s t = false from has_not (by rw [hr]; rintro ⟨h, _⟩; cases h))
    clear hr h h' hl hl'
    go_enter Try.func40, Try.ntmps40
    go_wp2_with fail
    refine HR.out.mono ?_
    rintro e w1 ⟨rfl, rfl⟩
    go_wp2_with fail
    go_ret
    exact ⟨by rw [HN.out]; rfl, rfl⟩
  | true =>
    rw [hr] at HR
    by_cases hnn : n' = n
    · subst hnn
      have HE := Lib.hid (own7_every_reaches A' n' c' B' t A c B s w h' hn h)
      have HB := Lib.hid (reach_has hr hl' hl)
      rw [HB.out] at HE
      clear HB
      generalize hasB s t = ok at *
      clear hr h h' hl hl'
      go_enter Try.func40, Try.ntmps40
      go_wp2_with fail
      refine HR.out.mono ?_
      rintro e w1 ⟨rfl, rfl⟩
      go_wp2_with fail
      refine HE.out.mono ?_
      rintro e w2 ⟨rfl, rfl⟩
      go_wp2_with fail
      go_ret
      first | exact ⟨rfl, rfl⟩ | (simp; done)
    · have HN := Lib.hid (show hasB s t = false from has_not (by rintro ⟨_, h, _⟩; rw [hl', hl] at h; exact hnn h))
      have d0 : ((n' : Int) == (n : Int)) = false := by simp; omega
      have d1 : (n' == n) = false := by simp; omega
      clear hr h h' hl hl' hnn
      go_enter Try.func40, Try.ntmps40
      go_wp2_with fail
      refine HR.out.mono ?_
      rintro e w1 ⟨rfl, rfl⟩
      go_wp2_with fail
      go_ret
      exact ⟨by rw [HN.out]; rfl, rfl⟩
set_option maxHeartbeats 1000000 in
theorem own7_size (A : Option Addr) (n c B : Nat) (s : List Int) (most : Int) (w : World) (h : Nums w B A n s) (hn : n ≤ 1048576) (hm : I64 most) :
    Calls Try.prog 35 #[.slice A n c, .int .i64 most] w fun e w' => e = .returned (.tuple #[.int .i64 (sizeV s most), .bool (sizeB s most)]) ∧ w' = w := by
  have HR := Lib.hid (own7_right A n c B s w h hn)
  have HSB := Lib.hid (show ∀ b, rightS s = b → sizeB s most = (b && prB (min most 1048576) s) from fun b hb => by unfold sizeB; rw [hb])
  cases hr : rightS s with
  | false =>
    rw [hr] at HR
    have HS := Lib.hid (show sizeB s most = false by rw [HSB.out _ hr]; rfl)
    have HV := Lib.hid (size_no HS.out)
    clear hr h
    go_enter Try.func35, Try.ntmps35
    go_wp2_with fail
    refine HR.out.mono ?_
    rintro e w1 ⟨rfl, rfl⟩
    go_wp2_with fail
    go_ret2
    exact ⟨by rw [HS.out, HV.out]; rfl, rfl⟩
  | true =>
    rw [hr] at HR
    have HP := Lib.hid (product_any (min most 1048576) A n c s w h.ints (by omega) (by omega) (right_i64 hr))
    have HS := Lib.hid (show sizeB s most = prB (min most 1048576) s by rw [HSB.out _ hr]; rfl)
    have HV := Lib.hid (show sizeV s most = pr (min most 1048576) s by
      unfold sizeV pr
      rw [HS.out])
    clear hr h
    generalize hmo : min most 1048576 = m0 at *
    have HMO := Lib.hid hmo
    clear hmo
    go_enter Try.func35, Try.ntmps35
    go_wp2_with fail
    refine HR.out.mono ?_
    rintro e w1 ⟨rfl, rfl⟩
    go_wp2_with fail
    · obtain rfl : m0 = 1048576 := by have := HMO.out; omega
      refine HP.out.mono ?_
      rintro e w2 ⟨rfl, rfl⟩
      go_wp2_with fail
      go_ret2
      exact ⟨by rw [HV.out, HS.out]; rfl, rfl⟩
    · obtain rfl : m0 = most := by have := HMO.out; omega
      refine HP.out.mono ?_
      rintro e w2 ⟨rfl, rfl⟩
      go_wp2_with fail
      go_ret2
      exact ⟨by rw [HV.out, HS.out]; rfl, rfl⟩
end Go.Proofs.Ytdjenakmdjiknaa
end
