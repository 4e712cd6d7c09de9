/-
  The reference's Copy where there are so many cells.
-/
import Derived.Test.YtabkgdichlebmaaRef3b
namespace Go.Proofs.Ytabkgdichlebmaa
open Go.ChangeShapes Go.WideShapes Go.ChangeAt Go.RowKit
set_option linter.unusedVariables false

theorem layC_zero (l : List Cel) (at_ : Nat) (m : List Cel) (f : Nat) : layC l at_ m f 0 = l := by
  have : layC l at_ m f 0 = ctab l.length fun i => l.getD i noCel := ctab_congr fun i _ => if_neg (by omega)
  rw [this, ctab_self]
theorem layC_step (l : List Cel) (at_ : Nat) (m : List Cel) (f x : Nat) (h : at_ + x < l.length) : (layC l at_ m f x).set (at_ + x) (m.getD (f + x) noCel) = layC l at_ m f (x + 1) := by
  refine cels_eq (by rw [List.length_set, layC_length, layC_length]) fun i hi => ?_
  rw [List.length_set, layC_length] at hi
  rw [layC_get _ _ _ _ _ _ hi]
  by_cases h1 : i = at_ + x
  · subst h1
    rw [if_pos (by omega)]
    simp only [List.getD]
    rw [List.getElem?_set_self (by rw [layC_length]; exact hi)]
    simp
  · have e : ((layC l at_ m f x).set (at_ + x) (m.getD (f + x) noCel)).getD i noCel = (layC l at_ m f x).getD i noCel := by
      simp only [List.getD]
      rw [List.getElem?_set_ne (Ne.symm h1)]
    rw [e, layC_get _ _ _ _ _ _ hi]
    by_cases h2 : at_ ≤ i ∧ i < at_ + x
    · rw [if_pos h2, if_pos (by omega)]
    · rw [if_neg h2, if_neg (by omega)]
theorem copy_grown {w w1 : World} {t : TypeId} {ds : Array Value} {n c : Nat} (hg : (w.alloc (.cells ds t)).grownBy w1 (Value.slice (some ⟨w.heap.size, 0, none⟩) n c).ownBlock) : w.grownBy w1 none :=
  grown_join (grown_alloc (grown_refl _ _) _) hg (.inr fun x hx => by
    have : w.heap.size = x := by simpa [Value.ownBlock] using hx
    omega)
def Copied3 (l : List Cel) (w : World) (e : Ending) (w' : World) : Prop :=
  ∃ A c, e = .returned (.tuple #[.slice A l.length c, .bool true]) ∧ OwnC w' w.heap.size 30 A l.length c l ∧ w.grownBy w' none
set_option maxHeartbeats 1000000 in
theorem ref3Copy_some (A' : Option Addr) (a : Addr) (k k' c c' : Nat) (l m : List Cel) (w : World) (h : Cels w w.heap.size (some a) k l) (h' : Cels w w.heap.size A' k' m) (hk : k ≤ 1048576) (hk' : k' ≤ 1048576) (at_ f n : Nat) (h1 : at_ + n ≤ k) (h2 : f + n ≤ k') (hsrc : ∀ j u, (celV l)[j]? = some u → (w.alloc (.cells #[] 30)).cell? (a.add j) = some u) :
    Calls Try.prog 12 #[.slice (some a) k c, .int .i64 at_, .slice A' k' c', .int .i64 f, .int .i64 n] w (Copied3 (layC l at_ m f n) w) := by
  obtain ⟨i0, hi, hz0, hz1, hz2⟩ := info_parts info_rcel
  have hk2 := h.below (below_of_grown (World.grownBy_alloc w (.cells #[] 30) none))
  have HN := Lib.hid h.1
  have HO : Hid ((w.alloc (.cells #[] 30)).ownsRow w.heap.size 30 2 (.slice (some ⟨w.heap.size, 0, none⟩) 0 0) 0 []) := Lib.hid (World.ownsRow_made w #[] 0 (Nat.le_refl _) (by unfold maxLen; omega) rfl)
  have H' := Lib.hid h'
  have HSRC := Lib.hid hsrc
  have HL := Lib.hid (show (celV l).length = k * 2 by rw [celV_length, h.1])
  have H1 := Lib.hid (celV_one l)
  clear h hk2 h' hsrc
  go_enter Try.func12, Try.ntmps12
  go_wp2_with (at_builtin; refine wpList_append_own _ rfl (.tmp 53) (.tmp 54) _ rfl w.heap.size 30 i0 _ 2 16 Try.underlying22 hi hz0 hz1 hz2 rfl (by omega) _ 0 [] rfl HO.out a k c (celV l) rfl HL.out HSRC.out H1.out (by simp only [maxLen]; omega) (by omega) (by simp) ?_; intro v' w1 hown' hg' hiff; clear hiff; rw [Nat.zero_add, List.nil_append] at hown'; obtain ⟨A2, c2, rfl⟩ := own_slice hown'; have HO2 := Lib.hid (own_c HN.out hown'); have HG2 := Lib.hid (copy_grown hg'); clear hown' hg')
  go_loopw [13] (fun i wr => ∃ x : Nat, x ≤ n ∧ i = .int .i64 x ∧ OwnC wr w.heap.size 30 A2 k c2 (layC l at_ m f x) ∧ w.grownBy wr none) (fun i _ => n - (intOf i).toNat)
  case atStart => exact ⟨0, by omega, rfl, by rw [layC_zero]; exact HO2.out, HG2.out⟩
  case round =>
    obtain ⟨x, hx, rfl, ho, hg⟩ := hrel
    by_cases hlt : x < n
    · obtain ⟨b', off', rfl, _, hc1, hc2⟩ := (H'.out.below (below_of_grown hg)).at_ (k := f + x) (by omega)
      obtain ⟨r, rfl, hr, k1, k2, k3, k4⟩ := ho.at_ (i := at_ + x) (by omega)
      have HST := Lib.hid (layC_step l at_ m f x (by rw [HN.out]; omega))
      have HO := Lib.hid ho
      have HG := Lib.hid hg
      clear ho hg
      generalize m.getD (f + x) noCel = y at *
      obtain ⟨yv, yo⟩ := y
      have l7 : ((at_ : Int) + (x : Int)).toNat = at_ + x := by omega
      have l8 : ((f : Int) + (x : Int)).toNat = f + x := by omega
      go_wp2
      go_roundw
      case rel => exact ⟨x + 1, by omega, by go_num, by rw [← HST.out]; exact HO.out.put (by omega) ⟨yv, yo⟩, HO.out.put_grown (by omega) HG.out (Nat.le_refl _)⟩
      case measure => simp [intOf]; omega
    · obtain rfl : x = n := by omega
      have HO := Lib.hid ho
      have HG := Lib.hid hg
      clear ho hg
      go_wp2
      go_ret2
      unfold Copied3
      rw [layC_length, HN.out]
      exact ⟨_, _, rfl, HO.out, HG.out⟩
set_option maxHeartbeats 1000000 in
theorem ref3Copy_none (A' : Option Addr) (k k' c c' : Nat) (l m : List Cel) (w : World) (h : Cels w w.heap.size none k l) (h' : Cels w w.heap.size A' k' m) (hk : k ≤ 1048576) (hk' : k' ≤ 1048576) (at_ f n : Nat) (h1 : at_ + n ≤ k) (h2 : f + n ≤ k') :
    Calls Try.prog 12 #[.slice none k 0, .int .i64 at_, .slice A' k' c', .int .i64 f, .int .i64 n] w (Copied3 (layC l at_ m f n) w) := by
  obtain ⟨i0, hi, hz0, hz1, hz2⟩ := info_parts info_rcel
  have hk2 := h.below (below_of_grown (World.grownBy_alloc w (.cells #[] 30) none))
  have HN := Lib.hid h.1
  have HO : Hid ((w.alloc (.cells #[] 30)).ownsRow w.heap.size 30 2 (.slice (some ⟨w.heap.size, 0, none⟩) 0 0) 0 []) := Lib.hid (World.ownsRow_made w #[] 0 (Nat.le_refl _) (by unfold maxLen; omega) rfl)
  have H' := Lib.hid h'
  obtain rfl : k = 0 := by
    rcases Nat.eq_zero_or_pos k with h0 | h0
    · exact h0
    · obtain ⟨_, _, e, _⟩ := h.2 h0
      cases e
  have hl : l = [] := List.eq_nil_of_length_eq_zero HN.out
  subst hl
  clear h hk2 h'
  go_enter Try.func12, Try.ntmps12
  go_wp2_with (at_builtin; refine wpList_append_own_none rfl (.tmp 53) (.tmp 54) _ rfl w.heap.size 30 i0 2 Try.underlying22 hi _ 0 [] rfl HO.out rfl ?_)
  have HO2 : Hid (OwnC (w.alloc (.cells #[] 30)) w.heap.size 30 (some ⟨w.heap.size, 0, none⟩) 0 0 []) := by exact Lib.hid ⟨rfl, HO.out⟩
  have HG2 := Lib.hid (World.grownBy_alloc w (.cells #[] 30) none)
  go_loopw [13] (fun i wr => ∃ x : Nat, x ≤ n ∧ i = .int .i64 x ∧ OwnC wr w.heap.size 30 (some ⟨w.heap.size, 0, none⟩) 0 0 (layC [] at_ m f x) ∧ w.grownBy wr none) (fun i _ => n - (intOf i).toNat)
  case atStart => exact ⟨0, by omega, rfl, by rw [layC_zero]; exact HO2.out, HG2.out⟩
  case round =>
    obtain ⟨x, hx, rfl, ho, hg⟩ := hrel
    by_cases hlt : x < n
    · omega
    · obtain rfl : x = n := by omega
      have HO := Lib.hid ho
      have HG := Lib.hid hg
      clear ho hg
      go_wp2
      go_ret2
      unfold Copied3
      rw [layC_length, HN.out]
      exact ⟨_, _, rfl, HO.out, HG.out⟩
/-- the reference's Copy where there are so many cells. -/
theorem ref3Copy_yes (A A' : Option Addr) (k k' c c' : Nat) (l m : List Cel) (w : World) (hA : A = none → c = 0) (h : Cels w w.heap.size A k l) (h' : Cels w w.heap.size A' k' m) (hk : k ≤ 1048576) (hk' : k' ≤ 1048576) (at_ f n : Nat) (h1 : at_ + n ≤ k) (h2 : f + n ≤ k') :
    Calls Try.prog 12 #[.slice A k c, .int .i64 at_, .slice A' k' c', .int .i64 f, .int .i64 n] w (Copied3 (layC l at_ m f n) w) := by
  cases A with
  | none =>
    obtain rfl := hA rfl
    exact ref3Copy_none A' k k' 0 c' l m w h h' hk hk' at_ f n h1 h2
  | some a =>
    rcases Nat.eq_zero_or_pos k with h0 | h0
    · subst h0
      have hl : l = [] := List.eq_nil_of_length_eq_zero h.1
      exact ref3Copy_some A' a 0 k' c c' l m w h h' hk hk' at_ f n h1 h2 (by subst hl; intro j u hu; simp [celV] at hu)
    · obtain ⟨b, off, e, _⟩ := h.2 h0
      injection e with e
      subst e
      exact ref3Copy_some A' _ k k' c c' l m w h h' hk hk' at_ f n h1 h2 (h.below (below_of_grown (World.grownBy_alloc w _ none))).src
end Go.Proofs.Ytabkgdichlebmaa
