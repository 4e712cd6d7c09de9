/-
  bits.Clone, Same, Both, Either: contracts.
-/
import Derived.Test.YtabkgdichlebmaaRefs
import Derived.WalkSpells
import Derived.StillTailTactics
namespace Go.Proofs.Ytabkgdichlebmaa
open Go.ChangeShapes Go.WideShapes Go.ChangeAt Go.RowKit
set_option linter.unusedVariables false

theorem nil_asked (A : Option Addr) (n c : Nat) (w : World) : (binOp .eql 79 (.slice A n c) (.slice none 0 0)).run Try.prog w = .ok (.bool A.isNone) w :=
  Lib.run_eql_slice_nil w 79 82 A n c 0 0 Try.underlying79
theorem sclone_nil (w : World) : Calls Try.prog 51 #[.slice none 0 0] w fun e w' => e = .returned (.slice none 0 0) ∧ w' = w := by
  have hq := nil_asked none 0 0
  go_enter Try.func51, Try.ntmps51
  go_wp2
  go_ret
  exact ⟨rfl, rfl⟩
def Cloned (k : Nat) (xs : List Value) (w : World) (e : Ending) (w' : World) : Prop :=
  ∃ A' c', e = .returned (.slice A' k c') ∧ w'.ownsRow w.heap.size 82 1 (.slice A' k c') k xs ∧ w.grownBy w' none
set_option maxHeartbeats 1000000 in
theorem sclone_any (r : Nat) (k c : Nat) (xs : List Value) (B : Nat) (w : World) (h : w.ownsRow B 82 1 (.slice (some ⟨r, 0, none⟩) k c) k xs) (hk : k ≤ 32768) (h1 : ∀ u ∈ xs, u.oneCell' = true) :
    Calls Try.prog 51 #[.slice (some ⟨r, 0, none⟩) k c] w (Cloned k xs w) := by
  obtain ⟨i0, hi, hz0, hz1, hz2⟩ := info_parts info_u64
  have hq := nil_asked (some ⟨r, 0, none⟩) k c
  have hown := World.ownsRow_made (e := 82) (size := 1) w #[] 0 (Nat.le_refl _) (by unfold maxLen; omega) rfl
  have hsrc : ∀ j u, xs[j]? = some u → (w.alloc (.cells #[] 82)).cell? ((⟨r, 0, none⟩ : Addr).add j) = some u := fun j u hu => (h.alloc _).cells rfl j u hu
  have hlen := h.1
  have HO := Lib.hid hown
  have HS := Lib.hid hsrc
  have HL := Lib.hid hlen
  have H1 := Lib.hid h1
  clear h hown hsrc hlen h1
  go_enter Try.func51, Try.ntmps51
  go_wp2_with (at_builtin; refine wpList_append_own _ rfl (.tmp 5) (.tmp 6) _ rfl w.heap.size 82 i0 _ 1 8 Try.underlying79 hi hz0 hz1 hz2 rfl (by omega) _ 0 [] rfl HO.out ⟨r, 0, none⟩ k c xs rfl HL.out HS.out H1.out (by simp only [maxLen]; omega) (by omega) (by simp) ?_; intro v' w1 hown' hg' _)
  go_ret
  have hg2 : (w.alloc (.cells #[] 82)).grownBy w1 (some w.heap.size) := hg'
  have hgr : w.grownBy w1 none := grown_join (World.grownBy_alloc w _ none) hg2 (.inr fun x hx => by injection hx with hx; omega)
  rw [Nat.zero_add, List.nil_append] at hown'
  rcases hown'.2 with ⟨rfl, h0⟩ | ⟨g, cap, cur, rfl, _⟩
  · subst h0
    exact ⟨none, 0, rfl, hown', hgr⟩
  · exact ⟨_, _, rfl, hown', hgr⟩
theorem wordsV_one (l : List Bool) : ∀ u ∈ wordsV l, u.oneCell' = true := by
  intro u hu
  unfold wordsV at hu
  rw [List.mem_map] at hu
  obtain ⟨j, _, rfl⟩ := hu
  rfl
theorem clone_mask (g : Nat) (A : Option Addr) (k c : Nat) (l : List Bool) (B : Nat) (w : World) (h : Mask w B g A k c l) :
    Calls Try.prog 44 #[.pointer (some ⟨g, 0, none⟩)] w (NewMask l w) := by
  have H := Lib.hid h
  have hs := h.small
  have hk : k ≤ 32768 := by rw [h.count]; exact nw_le hs
  have HC : Hid (Calls Try.prog 51 #[.slice A k c] w (Cloned k (wordsV l) w)) := by
    refine Lib.hid ?_
    cases A with
    | none =>
      have hk0 : k = 0 ∧ c = 0 ∧ wordsV l = [] := by
        rcases h.2.2.2.2 with ⟨e, h0⟩ | ⟨_, _, _, e, _⟩
        · injection e with _ e1 e2
          exact ⟨h0, e2, List.eq_nil_of_length_eq_zero (by rw [h.2.2.2.1]; omega)⟩
        · injection e with e1
          cases e1
      obtain ⟨rfl, rfl, e⟩ := hk0
      rw [e]
      refine (sclone_nil w).mono fun e w' ⟨h1, h2⟩ => ?_
      subst h1; subst h2
      exact ⟨none, 0, rfl, World.ownsRow_nil _ _ _ _, grown_refl _ _⟩
    | some a =>
      rcases h.2.2.2.2 with ⟨e, _⟩ | ⟨r, _, _, e, _⟩
      · injection e with e1; cases e1
      · injection e with e1
        injection e1 with e1
        subst e1
        exact sclone_any r k c _ B w h.2.2.2 hk (wordsV_one l)
  clear h
  go_enter Try.func44, Try.ntmps44
  go_wp2_with fail
  refine (len_any _ l _ _ H.out.p).mono ?_
  rintro e w' ⟨rfl, hww⟩
  subst hww
  go_wp2_with fail
  refine (row_any _ _ _ _ l _ _ H.out).mono ?_
  rintro e w1 ⟨rfl, hww⟩
  subst hww
  go_wp2_with fail
  refine HC.out.mono ?_
  rintro e w1 ⟨A', c', rfl, ho, hg⟩
  have HO := Lib.hid ho
  have HG := Lib.hid hg
  clear ho hg
  go_wp2_with fail
  go_ret
  exact ⟨w1.heap.size, A', k, c', rfl, ⟨hs, HG.out.size, Box.fresh w1 _ _, HO.out.alloc _⟩, grown_alloc HG.out _⟩
theorem words_nil : wordsV [] = [] := rfl
theorem clone_nil (w : World) : Calls Try.prog 44 #[.pointer none] w (NewMask [] w) := by
  go_enter Try.func44, Try.ntmps44
  go_wp2_with (first
    | (go_at_call 48; refine (row_nil _).mono ?_; rintro e w' ⟨rfl, hww⟩; subst hww)
    | (go_at_call 46; refine (len_any none [] 0 _ (MaskP.nil _ _)).mono ?_; rintro e w' ⟨rfl, hww⟩; subst hww)
    | (go_at_call 51; refine (sclone_nil _).mono ?_; rintro e w' ⟨rfl, hww⟩; subst hww))
  go_ret
  exact ⟨w'.heap.size, none, 0, 0, rfl, ⟨by simp, Nat.le_refl _, Box.fresh w' _ _, World.ownsRow_nil _ _ _ _⟩, World.grownBy_alloc _ _ _⟩
theorem clone_any (p : Option Addr) (l : List Bool) (B : Nat) (w : World) (h : MaskP w B p l) :
    Calls Try.prog 44 #[.pointer p] w (NewMask l w) := by
  rcases h with ⟨rfl, rfl⟩ | ⟨g, A, k, c, rfl, h⟩
  · exact clone_nil w
  · exact clone_mask g A k c l B w h

/-! ### slices.Equal, bits.Same -/
theorem Mask.sees {w : World} {B g k c : Nat} {A : Option Addr} {l : List Bool} (h : Mask w B g A k c l) : Sees w w.heap.size A k fun j => .int .u64 ((word l j : Nat) : Int) := fun h0 => by
  obtain ⟨r, rfl, _, hl, _, _⟩ := own_form h.2.2.2 h0
  refine ⟨r, 0, rfl, hl, fun j hj => ?_⟩
  rw [Nat.zero_add, h.2.2.2.cellAt j (by omega)]
  exact wordsV_get l j (by have := h.count; omega)
def sameW (k k' : Nat) (f f' : Nat → Nat) : Bool := decide (k = k' ∧ ∀ j, j < k → f j = f' j)
set_option maxHeartbeats 1000000 in
theorem equal_any (A A' : Option Addr) (k k' c c' : Nat) (f f' : Nat → Nat) (B : Nat) (w : World) (h : Sees w B A k fun j => .int .u64 ((f j : Nat) : Int)) (h' : Sees w B A' k' fun j => .int .u64 ((f' j : Nat) : Int)) (hk : k ≤ 32768) (hk' : k' ≤ 32768) :
    Calls Try.prog 50 #[.slice A k c, .slice A' k' c'] w (Told (sameW k k' f f') w) := by
  have H := Lib.hid h
  have H' := Lib.hid h'
  clear h h'
  by_cases hnn : k = k'
  · subst hnn
    go_enter Try.func50, Try.ntmps50
    go_wp2
    go_loopw [13] (fun i wr => ∃ x m : Nat, x ≤ k ∧ i = .int .i64 x ∧ (∀ j, j < x → f j = f' j) ∧ wr = w.drewN m) (fun i _ => k - (intOf i).toNat)
    case atStart => exact ⟨0, 0, by omega, rfl, fun i hi => by omega, rfl⟩
    case round =>
      obtain ⟨x, m, hx, rfl, hq, hwr⟩ := hrel
      have HQ := Lib.hid hq
      clear hq
      by_cases hlt : x < k
      · obtain ⟨b, off, rfl, _, hc⟩ := (H.out.drewN m).at_ hlt
        obtain ⟨b', off', rfl, _, hc'⟩ := (H'.out.drewN m).at_ hlt
        rw [← hwr] at hc hc'
        have HW := Lib.hid hwr
        clear hwr
        generalize h1 : f x = v at *
        generalize h2 : f' x = v' at *
        have H1 := Lib.hid h1
        have H2 := Lib.hid h2
        clear h1 h2
        by_cases he : v = v'
        · subst he
          have hb : ((v : Int) != (v : Int)) = false := by simp
          go_wp2
          go_quiet (fail)
          go_wp2
          go_roundw
          case rel => exact ⟨x + 1, _, by omega, by go_num, fun j hj => by
            by_cases hjx : j = x
            · subst hjx; rw [H1.out, H2.out]
            · exact HQ.out j (by omega), by rw [HW.out, World.drewN_drewN]⟩
          case measure => simp [intOf]; omega
        · have hb : ((v : Int) != (v' : Int)) = true := by simp; omega
          have HE := Lib.hid he
          clear he
          go_wp2
          go_quiet (fail)
          go_wp2
          go_ret
          rw [HW.out, World.drewN_drewN]
          exact told_eq ((decide_eq_false fun hh => HE.out (by rw [← H1.out, ← H2.out]; exact hh.2 x hlt)).symm) w _
      · obtain rfl : x = k := by omega
        subst hwr
        go_wp2
        go_ret
        exact told_eq ((decide_eq_true ⟨rfl, HQ.out⟩).symm) w m
  · have hne : ((k : Int) != (k' : Int)) = true := by simp; omega
    have HNN := Lib.hid hnn
    clear hnn
    go_enter Try.func50, Try.ntmps50
    go_wp2
    go_ret
    exact told_eq ((decide_eq_false fun hh => HNN.out hh.1).symm) w 0
/-- the row of a Mask, or of none. -/
theorem rowP (p : Option Addr) (l : List Bool) (B : Nat) (w : World) (h : MaskP w B p l) :
    ∃ A k c, k = nw l ∧ (Sees w w.heap.size A k fun j => .int .u64 ((word l j : Nat) : Int)) ∧ ∀ m, Calls Try.prog 48 #[.pointer p] (w.drewN m) fun e w' => e = .returned (.slice A k c) ∧ w' = w.drewN m := by
  rcases h with ⟨rfl, rfl⟩ | ⟨g, A, k, c, rfl, h⟩
  · exact ⟨none, 0, 0, rfl, fun h0 => absurd h0 (by omega), fun m => row_nil _⟩
  · exact ⟨A, k, c, h.count, h.sees, fun m => row_any g A k c l B _ (h.drewN m)⟩
theorem same_lists (l l' : List Bool) : sameW (nw l) (nw l') (word l) (word l') = true → l.length = l'.length → l = l' := fun h hl =>
  words_eq hl (of_decide_eq_true h).2
theorem bsame_any (p p' : Option Addr) (l l' : List Bool) (B B' : Nat) (w : World) (h : MaskP w B p l) (h' : MaskP w B' p' l') :
    Calls Try.prog 43 #[.pointer p, .pointer p'] w (Told (decide (l = l')) w) := by
  have hs := h.small
  have hs' := h'.small
  obtain ⟨A, k, c, hk, hsee, hrow⟩ := rowP p l B w h
  obtain ⟨A', k', c', hk', hsee', hrow'⟩ := rowP p' l' B' w h'
  have hk1 : k ≤ 32768 := by rw [hk]; exact nw_le hs
  have hk2 : k' ≤ 32768 := by rw [hk']; exact nw_le hs'
  have HR := Lib.hid (hrow 0)
  have HR' := Lib.hid (hrow' 0)
  have HE := Lib.hid (equal_any A A' k k' c c' (word l) (word l') _ w hsee hsee' hk1 hk2)
  have H := Lib.hid h
  have H' := Lib.hid h'
  have HK := Lib.hid hk
  have HK' := Lib.hid hk'
  clear hk hk' hsee hsee' hrow hrow' h h'
  by_cases hl : l.length = l'.length
  · have he : ((l.length : Int) == (l'.length : Int)) = true := by simp; omega
    have HL := Lib.hid hl
    clear hl
    go_enter Try.func43, Try.ntmps43
    go_wp2_with fail
    refine (len_any _ l _ _ H.out).mono ?_
    rintro e w' ⟨rfl, hww⟩
    subst hww
    go_wp2_with fail
    refine (len_any _ l' _ _ H'.out).mono ?_
    rintro e w1 ⟨rfl, hww⟩
    subst hww
    go_wp2_with fail
    refine HR.out.mono ?_
    rintro e w2 ⟨rfl, hww⟩
    subst hww
    go_wp2_with fail
    refine HR'.out.mono ?_
    rintro e w2 ⟨rfl, hww⟩
    subst hww
    go_wp2_with fail
    refine HE.out.mono ?_
    rintro e w2 ⟨rfl, m, hww⟩
    subst hww
    go_wp2_with fail
    go_ret
    refine told_eq ?_ _ m
    rw [HK.out, HK'.out]
    cases hb : sameW (nw l) (nw l') (word l) (word l') with
    | true => exact (decide_eq_true (same_lists l l' hb HL.out)).symm
    | false => exact (decide_eq_false fun e => (of_decide_eq_false hb) (by subst e; exact ⟨rfl, fun _ _ => rfl⟩)).symm
  · have he : ((l.length : Int) == (l'.length : Int)) = false := by simp; omega
    have HL := Lib.hid hl
    clear hl
    go_enter Try.func43, Try.ntmps43
    go_wp2_with fail
    refine (len_any _ l _ _ H.out).mono ?_
    rintro e w' ⟨rfl, hww⟩
    subst hww
    go_wp2_with fail
    refine (len_any _ l' _ _ H'.out).mono ?_
    rintro e w1 ⟨rfl, hww⟩
    subst hww
    go_wp2_with fail
    go_ret
    exact told_eq (alike_len HL.out) _ 0
end Go.Proofs.Ytabkgdichlebmaa
