/-
  buf.blank, New, Of, Clone, Same, Cells: contracts.
-/
import Derived.Test.YtabkgdichlebmaaBufPut
namespace Go.Proofs.Ytabkgdichlebmaa
open Go.ChangeShapes Go.WideShapes Go.ChangeAt Go.RowKit
set_option linter.unusedVariables false

/-! ### slices.Clone, Equal -/
theorem info_i64 : (Try.prog.info? 2).map (fun i => (i.zero, i.size, i.bytes)) = some (some (.int .i64 0), 1, 8) := by kernel_rfl
theorem nilI_asked (A : Option Addr) (n c : Nat) (w : World) : (binOp .eql 63 (.slice A n c) (.slice none 0 0)).run Try.prog w = .ok (.bool A.isNone) w :=
  Lib.run_eql_slice_nil w 63 2 A n c 0 0 Try.underlying63
def ClonedI (k : Nat) (xs : List Value) (w : World) (e : Ending) (w' : World) : Prop :=
  ∃ A' c', e = .returned (.slice A' k c') ∧ w'.ownsRow w.heap.size 2 1 (.slice A' k c') k xs ∧ w.grownBy w' none
theorem icloneNil (w : World) : Calls Try.prog 37 #[.slice none 0 0] w fun e w' => e = .returned (.slice none 0 0) ∧ w' = w := by
  have hq := nilI_asked none 0 0
  go_enter Try.func37, Try.ntmps37
  go_wp2
  go_ret
  exact ⟨rfl, rfl⟩
set_option maxHeartbeats 1000000 in
theorem iclonePtr (r : Nat) (k c : Nat) (xs : List Value) (B : Nat) (w : World) (h : w.ownsRow B 2 1 (.slice (some ⟨r, 0, none⟩) k c) k xs) (hk : k ≤ 1048576) (h1 : ∀ u ∈ xs, u.oneCell' = true) :
    Calls Try.prog 37 #[.slice (some ⟨r, 0, none⟩) k c] w (ClonedI k xs w) := by
  obtain ⟨i0, hi, hz0, hz1, hz2⟩ := info_parts info_i64
  have hq := nilI_asked (some ⟨r, 0, none⟩) k c
  have hown := World.ownsRow_made (e := 2) (size := 1) w #[] 0 (Nat.le_refl _) (by unfold maxLen; omega) rfl
  have hsrc : ∀ j u, xs[j]? = some u → (w.alloc (.cells #[] 2)).cell? ((⟨r, 0, none⟩ : Addr).add j) = some u := fun j u hu => (h.alloc _).cells rfl j u hu
  have hlen := h.1
  have HO := Lib.hid hown
  have HS := Lib.hid hsrc
  have HL := Lib.hid hlen
  have H1 := Lib.hid h1
  clear h hown hsrc hlen h1
  go_enter Try.func37, Try.ntmps37
  go_wp2_with (at_builtin; refine wpList_append_own _ rfl (.tmp 5) (.tmp 6) _ rfl w.heap.size 2 i0 _ 1 8 Try.underlying63 hi hz0 hz1 hz2 rfl (by omega) _ 0 [] rfl HO.out ⟨r, 0, none⟩ k c xs rfl HL.out HS.out H1.out (by simp only [maxLen]; omega) (by omega) (by simp) ?_; intro v' w1 hown' hg' _)
  go_ret
  have hg2 : (w.alloc (.cells #[] 2)).grownBy w1 (some w.heap.size) := hg'
  have hgr : w.grownBy w1 none := grown_join (World.grownBy_alloc w _ none) hg2 (.inr fun x hx => by injection hx with hx; omega)
  rw [Nat.zero_add, List.nil_append] at hown'
  rcases hown'.2 with ⟨rfl, h0⟩ | ⟨g, cap, cur, rfl, _⟩
  · subst h0
    exact ⟨none, 0, rfl, hown', hgr⟩
  · exact ⟨_, _, rfl, hown', hgr⟩
theorem numsV_one (l : List Cel) : ∀ u ∈ numsV l, u.oneCell' = true := by
  intro u hu
  unfold numsV at hu
  rw [List.mem_map] at hu
  obtain ⟨j, _, rfl⟩ := hu
  rfl
theorem iclone_any (A : Option Addr) (c : Nat) (l : List Cel) (B : Nat) (w : World) (h : w.ownsRow B 2 1 (.slice A l.length c) l.length (numsV l)) (hk : l.length ≤ 1048576) :
    Calls Try.prog 37 #[.slice A l.length c] w (ClonedI l.length (numsV l) w) := by
  cases A with
  | none =>
    have hk0 : l.length = 0 ∧ c = 0 := by
      rcases h.2 with ⟨e, h0⟩ | ⟨_, _, _, e, _⟩
      · injection e with _ e1 e2
        exact ⟨h0, e2⟩
      · injection e with e1
        cases e1
    obtain ⟨h0, rfl⟩ := hk0
    obtain rfl := List.eq_nil_of_length_eq_zero h0
    refine (icloneNil w).mono fun e w' ⟨h1, h2⟩ => ?_
    subst h1; subst h2
    exact ⟨none, 0, rfl, World.ownsRow_nil _ _ _ _, grown_refl _ _⟩
  | some a =>
    rcases h.2 with ⟨e, _⟩ | ⟨r, _, _, e, _⟩
    · injection e with e1; cases e1
    · injection e with e1
      injection e1 with e1
      subst e1
      exact iclonePtr r _ c _ B w h hk (numsV_one l)
theorem BufG.sees {w : World} {lo hi g c : Nat} {mp A : Option Addr} {l : List Cel} (h : BufG w lo hi g mp A c l) : Sees w w.heap.size A l.length fun j => .int .i64 (numL l j) := fun h0 => by
  obtain ⟨r, rfl, _, hl, _, _⟩ := own_form h.own h0
  refine ⟨r, 0, rfl, hl, fun j hj => ?_⟩
  rw [Nat.zero_add, h.own.cellAt j (by omega)]
  exact numsV_get l j hj
def sameI (k k' : Nat) (f f' : Nat → Int) : Bool := decide (k = k' ∧ ∀ j, j < k → f j = f' j)
set_option maxHeartbeats 1000000 in
theorem iequal_any (A A' : Option Addr) (k k' c c' : Nat) (f f' : Nat → Int) (B B' : Nat) (w : World) (h : Sees w B A k fun j => .int .i64 (f j)) (h' : Sees w B' A' k' fun j => .int .i64 (f' j)) (hk : k ≤ 1048576) (hk' : k' ≤ 1048576) :
    Calls Try.prog 34 #[.slice A k c, .slice A' k' c'] w (Told (sameI k k' f f') w) := by
  have H := Lib.hid h
  have H' := Lib.hid h'
  clear h h'
  by_cases hnn : k = k'
  · subst hnn
    go_enter Try.func34, Try.ntmps34
    go_wp2
    go_loopw [13] (fun i wr => ∃ x m : Nat, x ≤ k ∧ i = .int .i64 x ∧ (∀ j, j < x → f j = f' j) ∧ wr = w.drewN m) (fun i _ => k - (intOf i).toNat)
    case atStart => exact ⟨0, 0, by omega, rfl, fun i hi => by omega, rfl⟩
    case round =>
      obtain ⟨x, m, hx, rfl, hq, hwr⟩ := hrel
      have HQ := Lib.hid hq
      clear hq
      by_cases hlt : x < k
      · obtain ⟨b, off, rfl, _, hc⟩ := (H.out.drewN m).at_ hlt
        obtain ⟨b', off', rfl, _, hc'⟩ := (H'.out.drewN m).at_ hlt
        rw [← hwr] at hc hc'
        have HW := Lib.hid hwr
        clear hwr
        generalize h1 : f x = v at *
        generalize h2 : f' x = v' at *
        have H1 := Lib.hid h1
        have H2 := Lib.hid h2
        clear h1 h2
        by_cases he : v = v'
        · subst he
          have hb : (v != v) = false := by simp
          go_wp2
          go_quiet (fail)
          go_wp2
          go_roundw
          case rel => exact ⟨x + 1, _, by omega, by go_num, fun j hj => by
            by_cases hjx : j = x
            · subst hjx; rw [H1.out, H2.out]
            · exact HQ.out j (by omega), by rw [HW.out, World.drewN_drewN]⟩
          case measure => simp [intOf]; omega
        · have hb : (v != v') = true := by simp; omega
          have HE := Lib.hid he
          clear he
          go_wp2
          go_quiet (fail)
          go_wp2
          go_ret
          rw [HW.out, World.drewN_drewN]
          exact told_eq ((decide_eq_false fun hh => HE.out (by rw [← H1.out, ← H2.out]; exact hh.2 x hlt)).symm) w _
      · obtain rfl : x = k := by omega
        subst hwr
        go_wp2
        go_ret
        exact told_eq ((decide_eq_true ⟨rfl, HQ.out⟩).symm) w m
  · have hne : ((k : Int) != (k' : Int)) = true := by simp; omega
    have HNN := Lib.hid hnn
    clear hnn
    go_enter Try.func34, Try.ntmps34
    go_wp2
    go_ret
    exact told_eq ((decide_eq_false fun hh => HNN.out hh.1).symm) w 0

/-! ### blank, New -/
def blanks (n : Nat) : List Cel := List.replicate n noCel
theorem blanks_length (n : Nat) : (blanks n).length = n := by simp [blanks]
theorem blanks_get (n i : Nat) : (blanks n).getD i noCel = noCel := by
  unfold blanks
  by_cases h : i < n <;> simp [List.getD, h]
theorem oks_blanks (n : Nat) : oks (blanks n) = allL n false := by simp [oks, blanks, allL, noCel]
theorem numsV_blanks (n : Nat) : numsV (blanks n) = List.replicate n (.int .i64 0) := by simp [numsV, blanks, noCel, Cel.norm]
theorem cnt_none (n : Nat) : cnt (allL n false) = 0 := by
  unfold cnt
  have h : ∀ k, popc (fun i => (allL n false).getD i false) k = 0 := fun k => by
    induction k with
    | zero => rfl
    | succ k ih =>
      have e : (allL n false).getD k false = false := by
        unfold allL
        by_cases h : k < n <;> simp [List.getD, h]
      rw [popc_succ, ih, e]
      rfl
  exact h _
/-- a new Buf. -/
def NewBuf (l : List Cel) (w : World) (e : Ending) (w' : World) : Prop :=
  ∃ g mp A c, e = .returned (.pointer (some ⟨g, 0, none⟩)) ∧ BufG w' w.heap.size w'.heap.size g mp A c l ∧ w.grownBy w' none
theorem make_nums (m : Nat) (hm : m ≤ 1048576) : ∃ Z : Array Value, Z.toList = List.replicate m (.int .i64 0) ∧ ∀ W : World, (Instr.makeSlice 63 (.int .i64 (m : Int)) (.int .i64 (m : Int))).run Try.prog W = .ok (.slice (some ⟨W.heap.size, 0, none⟩) m m) (W.alloc (.cells Z 2)) := by
  obtain ⟨i0, hi, hz0, hz1, hz2⟩ := info_parts info_i64
  refine ⟨madeCells (Value.int .i64 0).cells (m * i0.size), by rw [hz1]; exact zeros_of _ rfl m, fun W => ?_⟩
  have h := run_make (P := Try.prog) W 63 2 i0 _ Try.underlying63 hi hz0 .i64 .i64 (m : Int) (m : Int) (by omega) (by omega) (by rw [hz2]; omega) (by omega)
  simpa using h
/-- a Buf that was put together of a mask and a row, all of them new. -/
theorem buf_built {w X : World} {q : Addr} {c : Nat} {A : Option Addr} {l : List Cel} {M : List Bool} (hM : M = oks l) (hl : l.length ≤ 1048576) (hm : MaskI X w.heap.size X.heap.size (some q) M) (ho : X.ownsRow w.heap.size 2 1 (.slice A l.length c) l.length (numsV l)) (hg : w.grownBy X none) :
    NewBuf l w (.returned (.pointer (some ⟨X.heap.size, 0, none⟩))) (X.alloc (.cells #[.pointer (some q), .slice A l.length c] 65)) := by
  subst hM
  have h1 := hg.size
  refine ⟨_, some q, A, c, rfl, ⟨h1, by simp, Nat.le_refl _, hl, Box.fresh X _ _, (hm.grow (World.grownBy_alloc _ _ none)).more (Nat.le_refl _) (by simp), ho.alloc _, fun x hx => ?_⟩, grown_alloc hg _⟩
  have := ho.lt x (map_own' hx)
  simp
  omega
theorem blank_a {w w1 : World} {n k : Nat} {q : Addr} {Z : Array Value} (hn : n ≤ 1048576) (hZ : Z.toList = List.replicate n (.int .i64 0)) (hm : MaskI w1 w.heap.size w1.heap.size (some q) (allL n false)) (hg : (w.drewN k).grownBy w1 none) :
    NewBuf (blanks n) w (.returned (.pointer (some ⟨w1.heap.size + 1, 0, none⟩))) ((w1.alloc (.cells Z 2)).alloc (.cells #[.pointer (some q), .slice (some ⟨w1.heap.size, 0, none⟩) n n] 65)) := by
  have hg' : w.grownBy w1 none := grown_join (grown_drewN (grown_refl w none) k) hg (.inr (by simp))
  have h := buf_built (w := w) (X := w1.alloc (.cells Z 2)) (q := q) (c := n) (A := some ⟨w1.heap.size, 0, none⟩) (l := blanks n) (M := allL n false) (oks_blanks n).symm (by rw [blanks_length]; exact hn) ((hm.grow (World.grownBy_alloc _ _ none)).more (Nat.le_refl _) (by simp)) ?_ (grown_alloc hg' _)
  · rw [blanks_length] at h
    simpa using h
  · rw [blanks_length, numsV_blanks, ← hZ]
    exact World.ownsRow_lit w1 Z _ hg'.size (by unfold maxLen; omega) (by rw [← Array.length_toList, hZ]; simp)
theorem blank_b {w w1 : World} {n k : Nat} {q : Addr} {Z : Array Value} (hn : n ≤ 1048576) (hZ : Z.toList = List.replicate n (.int .i64 0)) (hm : MaskI w1 ((w.alloc (.cells Z 2)).drewN k).heap.size w1.heap.size (some q) (allL n false)) (hg : ((w.alloc (.cells Z 2)).drewN k).grownBy w1 none) :
    NewBuf (blanks n) w (.returned (.pointer (some ⟨w1.heap.size, 0, none⟩))) (w1.alloc (.cells #[.pointer (some q), .slice (some ⟨w.heap.size, 0, none⟩) n n] 65)) := by
  have hg' : w.grownBy w1 none := grown_join (grown_drewN (grown_alloc (grown_refl w none) _) k) hg (.inr (by simp))
  have h := buf_built (w := w) (X := w1) (q := q) (c := n) (A := some ⟨w.heap.size, 0, none⟩) (l := blanks n) (M := allL n false) (oks_blanks n).symm (by rw [blanks_length]; exact hn) (hm.more (by show w.heap.size ≤ (w.alloc _).heap.size; simp) (Nat.le_refl _)) ?_ hg'
  · rw [blanks_length] at h
    exact h
  · rw [blanks_length, numsV_blanks, ← hZ]
    exact World.ownsRow.kept (w := (w.alloc (.cells Z 2)).drewN k) (World.ownsRow_lit w Z _ (Nat.le_refl _) (by unfold maxLen; omega) (by rw [← Array.length_toList, hZ]; simp)) hg (.inr (by simp [Value.ownBlock]))
theorem bblank_any (n : Nat) (hn : n ≤ 1048576) (w : World) : Calls Try.prog 27 #[.int .i64 n] w (NewBuf (blanks n) w) := by
  obtain ⟨Z, hZ, hmk⟩ := make_nums n hn
  have HZ := Lib.hid hZ
  have HC := Lib.hid (show cutN (n : Int) = n from cutN_of n (by omega))
  clear hZ
  go_enter Try.func27, Try.ntmps27
  go_wp2_with fail
  have hHere := here w
  go_region_held3 (fun w' => Here w') (exact here _) (first
    | (go_at_call 38; refine (new_any n false ⟨by omega, by omega⟩ _).mono ?_; rw [HC.out]; rintro e w1 hn1; obtain ⟨q, rfl, hm, hg⟩ := hn1.i; have HM := Lib.hid hm; have HG := Lib.hid hg; clear hm hg hn1))
  all_goals go_wp2
  all_goals go_ret
  all_goals (first | exact blank_a hn HZ.out HM.out HG.out | exact blank_b hn HZ.out HM.out HG.out | skip)

/-- what New answers: its error's number. -/
def newE (n most : Int) : Int := if min (max most 0) 1048576 < n then 7 else if n < 0 then 5 else 0
def NewEnd (n most : Int) (w : World) (e : Ending) (w' : World) : Prop :=
  (newE n most ≠ 0 ∧ e = .returned (.tuple #[.pointer none, .int .i64 (newE n most)]) ∧ w' = w) ∨
  (newE n most = 0 ∧ 0 ≤ n ∧ n ≤ 1048576 ∧ ∃ g mp A c, e = .returned (.tuple #[.pointer (some ⟨g, 0, none⟩), .int .i64 0]) ∧ BufG w' w.heap.size w'.heap.size g mp A c (blanks n.toNat) ∧ w.grownBy w' none)
theorem bufNew_any (n most : Int) (w : World) : Calls Try.prog 19 #[.int .i64 n, .int .i64 most] w (NewEnd n most w) := by
  obtain ⟨m0, hm0⟩ : ∃ m, m = (if most < 0 then 0 else most) := ⟨_, rfl⟩
  obtain ⟨m, hm⟩ : ∃ m, m = (if 1048576 < m0 then 1048576 else m0) := ⟨_, rfl⟩
  have hcap : m = min (max most 0) 1048576 := by
    rw [hm, hm0]
    split <;> split <;> omega
  have e0 := hm0.symm
  have e1 := hm.symm
  clear hm0 hm
  by_cases h1 : m < n
  · have HE := Lib.hid (show newE n most = 7 by unfold newE; rw [← hcap, if_pos h1])
    clear hcap
    go_enter Try.func19, Try.ntmps19
    go_wp2
    go_ret2
    exact .inl ⟨by rw [HE.out]; decide, by rw [HE.out]; rfl, rfl⟩
  · by_cases h2 : n < 0
    · have HE := Lib.hid (show newE n most = 5 by unfold newE; rw [← hcap, if_neg h1, if_pos h2])
      clear hcap
      go_enter Try.func19, Try.ntmps19
      go_wp2
      go_ret2
      exact .inl ⟨by rw [HE.out]; decide, by rw [HE.out]; rfl, rfl⟩
    · have HE := Lib.hid (show newE n most = 0 by unfold newE; rw [← hcap, if_neg h1, if_neg h2])
      have hle : n ≤ 1048576 := by omega
      obtain ⟨N, rfl⟩ : ∃ N : Nat, n = N := ⟨n.toNat, by omega⟩
      have HB := Lib.hid (bblank_any N (by omega) w)
      clear hcap
      go_enter Try.func19, Try.ntmps19
      go_wp2_with fail
      refine HB.out.mono ?_
      rintro e w1 ⟨g, mp, A, c, rfl, hb, hg⟩
      have HBG := Lib.hid hb
      have HG := Lib.hid hg
      clear hb hg
      go_wp2_with fail
      go_ret2
      exact .inr ⟨HE.out, by omega, hle, g, mp, A, c, rfl, HBG.out, HG.out⟩
end Go.Proofs.Ytabkgdichlebmaa
