/-
  The law package's put; the reference's Copy.
-/
import Derived.Test.YtabkgdichlebmaaRef3
namespace Go.Proofs.Ytabkgdichlebmaa
open Go.ChangeShapes Go.WideShapes Go.ChangeAt Go.RowKit
set_option linter.unusedVariables false

/-! ### put, Copy -/
theorem Cels.src {w : World} {B n : Nat} {b off : Nat} {l : List Cel} (h : Cels w B (some ⟨b, off, none⟩) n l) : ∀ j u, (celV l)[j]? = some u → w.cell? ((⟨b, off, none⟩ : Addr).add j) = some u := by
  intro j u hu
  have hj : j < l.length * 2 := by rw [← celV_length]; exact (List.getElem?_eq_some_iff.1 hu).1
  have hn := h.1
  obtain ⟨b', off', e, _, hc1, hc2⟩ := h.at_ (k := j / 2) (by omega)
  injection e with e
  injection e with e1 e2
  subst e1; subst e2
  obtain ⟨g1, g2⟩ := celV_get l (j / 2) (by omega)
  rw [Addr.add_lit]
  rcases Nat.mod_two_eq_zero_or_one j with hm | hm
  · have ej : j / 2 * 2 = j := by omega
    rw [ej] at g1 hc1
    rw [hc1, ← g1, hu]
  · have ej : j / 2 * 2 + 1 = j := by omega
    rw [ej] at g2
    rw [show off + j / 2 * 2 + 1 = off + j by omega] at hc2
    rw [hc2, ← g2, hu]
theorem own_c {w : World} {base n c : Nat} {e : TypeId} {A : Option Addr} {l : List Cel} (hn : l.length = n) (h : w.ownsRow base e 2 (.slice A n c) n (celV l)) : OwnC w base e A n c l := ⟨hn, h⟩
theorem put_box {w w1 : World} {t t' : TypeId} {cs ds : Array Value} {n c : Nat} (hg : ((w.alloc (.cells cs t)).alloc (.cells ds t')).grownBy w1 (Value.slice (some ⟨w.heap.size + 1, 0, none⟩) n c).ownBlock) : Box w1 w.heap.size t cs :=
  ((Box.fresh w t cs).alloc _).grown hg (by simp [Value.ownBlock])
theorem put_grown {w w1 : World} {t t' : TypeId} {cs ds : Array Value} {n c : Nat} (hg : ((w.alloc (.cells cs t)).alloc (.cells ds t')).grownBy w1 (Value.slice (some ⟨w.heap.size + 1, 0, none⟩) n c).ownBlock) : w.grownBy w1 none :=
  grown_join (grown_alloc (grown_alloc (grown_refl _ _) _) _) hg (.inr fun x hx => by simp [Value.ownBlock] at hx; omega)
set_option maxHeartbeats 1000000 in
/-- a copy of cells, made by append to an empty row, and then put into. -/
theorem lawPut_any (A : Option Addr) (n c : Nat) (l : List Cel) (i : Nat) (x : Cel) (w : World) (h : Cels w w.heap.size A n l) (hn : n ≤ 1048576) (hi' : i < n) :
    Calls Try.prog 10 #[.slice A n c, .int .i64 i, .agg #[.int .i64 x.v, .bool x.ok]] w (GaveCels 30 (l.set i x) w) := by
  obtain ⟨i0, hi, hz0, hz1, hz2⟩ := info_parts info_rcel
  obtain ⟨b, off, rfl, hb, _, _⟩ := h.at_ hi'
  have hk := h.below (below_of_grown (World.grownBy_alloc w (.cells #[.int .i64 x.v, .bool x.ok] 30) none))
  have hk2 := hk.below (w' := (w.alloc (.cells #[.int .i64 x.v, .bool x.ok] 30)).alloc (.cells #[] 30)) ((below_of_grown (World.grownBy_alloc _ _ none)).mono (by simp))
  have HSRC := Lib.hid hk2.src
  have HN := Lib.hid h.1
  have HO : Hid (((w.alloc (.cells #[.int .i64 x.v, .bool x.ok] 30)).alloc (.cells #[] 30)).ownsRow w.heap.size 30 2 (.slice (some ⟨w.heap.size + 1, 0, none⟩) 0 0) 0 []) := Lib.hid (by
    have h := World.ownsRow_made (base := w.heap.size) (e := 30) (size := 2) (w.alloc (.cells #[.int .i64 x.v, .bool x.ok] 30)) #[] 0 (by simp) (by unfold maxLen; omega) rfl
    simpa using h)
  have HL := Lib.hid (show (celV l).length = n * 2 by rw [celV_length, h.1])
  have H1 := Lib.hid (celV_one l)
  obtain ⟨xv, xo⟩ := x
  clear h hk hk2
  go_enter Try.func10, Try.ntmps10
  go_wp2_with (at_builtin; refine wpList_append_own _ rfl (.tmp 8) (.tmp 9) _ rfl w.heap.size 30 i0 _ 2 16 Try.underlying22 hi hz0 hz1 hz2 rfl (by omega) _ 0 [] rfl HO.out ⟨b, off, none⟩ n c (celV l) rfl HL.out HSRC.out H1.out (by simp only [maxLen]; omega) (by omega) (by simp; omega) ?_; intro v' w1 hown' hg' hiff; clear hiff; rw [Nat.zero_add, List.nil_append] at hown'; obtain ⟨A', c', rfl⟩ := own_slice hown'; have ho := own_c HN.out hown'; obtain ⟨r, rfl, hr, k1, k2, k3, k4⟩ := ho.at_ hi'; obtain ⟨x0, x1, _, _, _, _⟩ := (put_box hg').two (.int .i64 xv) (.bool xo); have HO2 := Lib.hid ho; have HG2 := Lib.hid (put_grown hg'); clear hown' hg' ho)
  go_ret
  have hl := HO2.out.put hi' ⟨xv, xo⟩
  unfold GaveCels
  rw [List.length_set, HN.out]
  exact ⟨_, _, rfl, hl, HO2.out.put_grown (by omega) HG2.out (Nat.le_refl _)⟩

/-- the reference's Copy where there are not so many cells: the same cells, false. -/
theorem ref3Copy_no (A A' : Option Addr) (k k' c c' : Nat) (at_ f n : Int) (w : World) (ha : I64 at_) (hf : I64 f) (hn : I64 n) (hk : k ≤ 1048576) (hk' : k' ≤ 1048576) (hb : (hasN k at_ n && hasN k' f n) = false) :
    Calls Try.prog 12 #[.slice A k c, .int .i64 at_, .slice A' k' c', .int .i64 f, .int .i64 n] w fun e w' => e = .returned (.tuple #[.slice A k c, .bool false]) ∧ w' = w := by
  unfold I64 at ha hf hn
  have hb' : ¬ ((0 ≤ at_ ∧ 0 ≤ n ∧ n ≤ k - at_) ∧ (0 ≤ f ∧ 0 ≤ n ∧ n ≤ k' - f)) := by
    intro h
    unfold hasN at hb
    rw [decide_eq_true h.1, decide_eq_true h.2] at hb
    cases hb
  have HB := Lib.hid hb'
  clear hb hb'
  by_cases h1 : n < 0
  · clear HB
    go_enter Try.func12, Try.ntmps12
    go_wp2
    go_ret2
    exact ⟨rfl, rfl⟩
  · by_cases h2 : at_ < 0
    · clear HB
      go_enter Try.func12, Try.ntmps12
      go_wp2
      go_ret2
      exact ⟨rfl, rfl⟩
    · by_cases h3 : f < 0
      · clear HB
        go_enter Try.func12, Try.ntmps12
        go_wp2
        go_ret2
        exact ⟨rfl, rfl⟩
      · by_cases h4 : (k : Int) < n
        · clear HB
          go_enter Try.func12, Try.ntmps12
          go_wp2
          go_ret2
          exact ⟨rfl, rfl⟩
        · by_cases h5 : (k : Int) - n < at_
          · clear HB
            go_enter Try.func12, Try.ntmps12
            go_wp2
            go_ret2
            exact ⟨rfl, rfl⟩
          · by_cases h6 : (k' : Int) < n
            · clear HB
              go_enter Try.func12, Try.ntmps12
              go_wp2
              go_ret2
              exact ⟨rfl, rfl⟩
            · have h7 : (k' : Int) - n < f := by have := HB.out; omega
              clear HB
              go_enter Try.func12, Try.ntmps12
              go_wp2
              go_ret2
              exact ⟨rfl, rfl⟩
end Go.Proofs.Ytabkgdichlebmaa
