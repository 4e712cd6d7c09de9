/-
  buf.lay: contract.
-/
import Derived.Test.YtabkgdichlebmaaBufAll
import Derived.IntWalk
namespace Go.Proofs.Ytabkgdichlebmaa
open Go.ChangeShapes Go.WideShapes Go.ChangeAt Go.RowKit
set_option linter.unusedVariables false

/-- M with the marks of m from f on laid at the places from at + s on, ahead of at + e. -/
def layB (M : List Bool) (at_ : Nat) (m : List Bool) (f s e : Nat) : List Bool := tab M.length fun i => if at_ + s ≤ i ∧ i < at_ + e then m.getD (f + (i - at_)) false else M.getD i false
theorem layB_length (M : List Bool) (at_ : Nat) (m : List Bool) (f s e : Nat) : (layB M at_ m f s e).length = M.length := tab_length _ _
theorem layB_get (M : List Bool) (at_ : Nat) (m : List Bool) (f s e i : Nat) (h : i < M.length) : (layB M at_ m f s e).getD i false = if at_ + s ≤ i ∧ i < at_ + e then m.getD (f + (i - at_)) false else M.getD i false := by
  unfold layB
  rw [tab_get]; simp [h]
theorem layB_none (M : List Bool) (at_ : Nat) (m : List Bool) (f s : Nat) : layB M at_ m f s s = M :=
  list_eq (layB_length _ _ _ _ _ _) fun i hi => by
    rw [layB_length] at hi
    rw [layB_get _ _ _ _ _ _ _ hi, if_neg (by omega)]
theorem layB_up (M : List Bool) (at_ : Nat) (m : List Bool) (f x : Nat) (h : at_ + x < M.length) (b : Bool) (hb : b = m.getD (f + x) false) : fillL (layB M at_ m f 0 x) (at_ + x) (at_ + x + 1) b = layB M at_ m f 0 (x + 1) := by
  refine list_eq (by rw [fillL_length, layB_length, layB_length]) fun i hi => ?_
  rw [fillL_length, layB_length] at hi
  rw [fillL_get _ _ _ _ _ (by rw [layB_length]; omega), layB_get _ _ _ _ _ _ _ hi, layB_get _ _ _ _ _ _ _ hi]
  by_cases h1 : i = at_ + x
  · subst h1
    rw [if_pos (by omega), if_pos (by omega), hb]
    congr 1
    omega
  · by_cases h2 : at_ ≤ i ∧ i < at_ + x
    · rw [if_neg (by omega), if_pos (by omega), if_pos (by omega)]
    · rw [if_neg (by omega), if_neg (by omega), if_neg (by omega)]
theorem layB_down (M : List Bool) (at_ : Nat) (m : List Bool) (f k n : Nat) (h : at_ + n ≤ M.length) (hk : k < n) (b : Bool) (hb : b = m.getD (f + k) false) : fillL (layB M at_ m f (k + 1) n) (at_ + k) (at_ + k + 1) b = layB M at_ m f k n := by
  refine list_eq (by rw [fillL_length, layB_length, layB_length]) fun i hi => ?_
  rw [fillL_length, layB_length] at hi
  rw [fillL_get _ _ _ _ _ (by rw [layB_length]; omega), layB_get _ _ _ _ _ _ _ hi, layB_get _ _ _ _ _ _ _ hi]
  by_cases h1 : i = at_ + k
  · subst h1
    rw [if_pos (by omega), if_pos (by omega), hb]
    congr 1
    omega
  · by_cases h2 : at_ + (k + 1) ≤ i ∧ i < at_ + n
    · rw [if_neg (by omega), if_pos (by omega), if_pos (by omega)]
    · rw [if_neg (by omega), if_neg (by omega), if_neg (by omega)]

/-! ### Set -/
theorem maskSet_any (w : World) (lo hi g : Nat) (mp A : Option Addr) (c : Nat) (M : List Bool) (l : List Cel) (i : Nat) (b : Bool) (h : BufM w lo hi g mp A c M l) (hi' : i < M.length) :
    Calls Try.prog 40 #[.pointer mp, .int .i64 i, .bool b] w fun e w' => e = .returned (.bool true) ∧ BufM w' lo hi g mp A c (fillL M i (i + 1) b) l ∧ Turn lo hi w w' := by
  have h0 := h
  rcases h.mask with ⟨_, rfl⟩ | ⟨g', A', k', c', rfl, hlt, hm, hA⟩
  · simp at hi'
  · refine (set_yes g' A' k' c' M i b lo w hm hi').mono fun e w' ⟨h1, h2, h3⟩ => ?_
    exact ⟨h1, h0.marked hlt hA hm h2 h3, Turn.of_row h3 hA⟩

/-- what lay leaves. -/
def Laid (w : World) (lo hi g : Nat) (mp A : Option Addr) (c : Nat) (M : List Bool) (l : List Cel) (e : Ending) (w' : World) : Prop :=
  e = .returned (.tuple #[]) ∧ BufM w' lo hi g mp A c M l ∧ Turn lo hi w w'
section
variable {w w' : World} {lo hi g c : Nat} {mp A : Option Addr} {M : List Bool} {l : List Cel}
theorem lay_start (h : BufM w lo hi g mp A c M l) (a b : Array Value) (t u : TypeId) : BufM ((w.alloc (.cells a t)).alloc (.cells b u)) lo hi g mp A c M l ∧ Turn lo hi w ((w.alloc (.cells a t)).alloc (.cells b u)) :=
  ⟨(h.grow (World.grownBy_alloc _ _ none)).grow (World.grownBy_alloc _ _ none), ((Turn.refl _ _ _).alloc _).alloc _⟩
theorem two_boxes {b b' : Nat} {t t' : TypeId} {x y : Value} (h : Box w b t #[x]) (h' : Box w b' t' #[y]) : w.cell? ⟨b, 0, none⟩ = some x ∧ w.cell? ⟨b', 0, none⟩ = some y := ⟨by rw [h.get]; rfl, by rw [h'.get]; rfl⟩
theorem two_kept {b b' n : Nat} {t t' : TypeId} {x y : Value} (h : Box w b t #[x]) (h' : Box w b' t' #[y]) (hg : (w.drewN n).grownBy w' none) : w'.cell? ⟨b, 0, none⟩ = some x ∧ w'.cell? ⟨b', 0, none⟩ = some y := two_boxes (h.grownN hg) (h'.grownN hg)
end
set_option maxHeartbeats 2000000 in
theorem lay_up (w : World) (lo hi g : Nat) (mp A q : Option Addr) (c : Nat) (M : List Bool) (l : List Cel) (S : List Bool → List Bool) (B : Nat) (h : BufM w lo hi g mp A c M l)
    (hS : ∀ w' M', BufM w' lo hi g mp A c M' l → Turn lo hi w w' → MaskP w' B q (S M')) (at_ f n : Nat) (h1 : at_ + n ≤ M.length) (h2 : at_ ≤ f) (h3 : f + n ≤ 1048576) (h4 : M.length ≤ 1048576)
    (hr : ∀ x, x < n → (S (layB M at_ (S M) f 0 x)).getD (f + x) false = (S M).getD (f + x) false) :
    Calls Try.prog 31 #[.agg #[.pointer mp], .int .i64 at_, .agg #[.pointer q], .int .i64 f, .int .i64 n] w (Laid w lo hi g mp A c (layB M at_ (S M) f 0 n) l) := by
  have H := Lib.hid h
  have HS := Lib.hid hS
  have HR := Lib.hid hr
  have HST := Lib.hid (lay_start h #[.pointer mp] #[.pointer q] 62 62)
  have HLO := Lib.hid h.2.2.1
  clear h hS hr
  go_enter Try.func31, Try.ntmps31
  go_wp2_with fail
  go_loopw [13] (fun i wr => ∃ x : Nat, x ≤ n ∧ i = .int .i64 x ∧ BufM wr lo hi g mp A c (layB M at_ (S M) f 0 x) l ∧ Turn lo hi w wr ∧ Box wr w.heap.size 62 #[.pointer mp] ∧ Box wr (w.heap.size + 1) 62 #[.pointer q]) (fun i _ => n - (intOf i).toNat)
  case atStart => exact ⟨0, by omega, rfl, by rw [layB_none]; exact HST.out.1, HST.out.2, (Box.fresh w _ _).alloc _, by have := Box.fresh (w.alloc (.cells #[.pointer mp] 62)) 62 #[.pointer q]; rwa [show (w.alloc (.cells #[.pointer mp] 62)).heap.size = w.heap.size + 1 by simp] at this⟩
  case round =>
    obtain ⟨x, hx, rfl, hb, ht, hx1, hx2⟩ := hrel
    by_cases hlt : x < n
    · have c1 : wr.cell? ⟨w.heap.size, 0, none⟩ = some (.pointer mp) := by rw [hx1.get]; rfl
      have c2 : wr.cell? ⟨w.heap.size + 1, 0, none⟩ = some (.pointer q) := by rw [hx2.get]; rfl
      have HP := Lib.hid (HS.out wr _ hb ht)
      have HBM := Lib.hid hb
      have HT := Lib.hid ht
      have HX1 := Lib.hid hx1
      have HX2 := Lib.hid hx2
      have HTR := Lib.hid (show tr (S (layB M at_ (S M) f 0 x)) ((f : Int) + (x : Int)) = (S M).getD (f + x) false by rw [← HR.out x hlt, ← tr_nat]; rfl)
      have hw1 : IntKind.i64.wrap ((at_ : Int) + (x : Int)) = (at_ : Int) + (x : Int) := IntWalk.i64_in _ (by omega)
      have hw2 : IntKind.i64.wrap ((f : Int) + (x : Int)) = (f : Int) + (x : Int) := IntWalk.i64_in _ (by omega)
      clear hb ht hx1 hx2
      generalize hy : (S M).getD (f + x) false = y at *
      have HY := Lib.hid hy
      clear hy
      go_wp2_with fail
      go_region_held3 (fun w' => w'.cell? ⟨w.heap.size, 0, none⟩ = some (.pointer mp) ∧ w'.cell? ⟨w.heap.size + 1, 0, none⟩ = some (.pointer q)) (first | go_keep | exact KEEP2.out | exact KEEP.out) (first
        | (go_at_call 32; refine (there_any q _ _ B _ (HP.out.drewN _)).mono ?_; rw [HTR.out]; rintro e w2 ⟨rfl, hg2⟩; have KEEP := Lib.hid (two_kept HX1.out HX2.out hg2); have HBM2 := Lib.hid ((HBM.out.drewN _).grow hg2); have HT2 := Lib.hid ((HT.out.drewN _).grown hg2); have HXX := Lib.hid (And.intro (HX1.out.grownN hg2) (HX2.out.grownN hg2)); clear hg2)
        | (go_at_call 40; refine (maskSet_any _ lo hi g mp A c _ l (at_ + x) y HBM2.out (by rw [layB_length]; omega)).mono ?_; rintro e w3 ⟨rfl, hb3, ht3⟩; have HBM3 := Lib.hid hb3; have HT3 := Lib.hid (HT2.out.trans ht3); have HXX3 := Lib.hid (And.intro (ht3.box HXX.out.1 (.inr HLO.out)) (ht3.box HXX.out.2 (.inr (by have := HLO.out; omega)))); have KEEP2 := Lib.hid (two_boxes HXX3.out.1 HXX3.out.2); clear hb3 ht3))
      all_goals go_wp2
      all_goals clear hw1 hw2
      all_goals go_roundw
      case rel => exact ⟨x + 1, by omega, by go_num, by rw [← layB_up M at_ (S M) f x (by omega) y HY.out.symm]; exact HBM3.out, HT3.out, HXX3.out.1, HXX3.out.2⟩
      case measure => simp [intOf]; omega
    · obtain rfl : x = n := by omega
      have HBM := Lib.hid hb
      have HT := Lib.hid ht
      clear hb ht hx1 hx2
      go_wp2
      exact bodyPost_ret (v := .tuple #[]) (by simp [results, Try.results31, go_sem]) rfl ⟨rfl, HBM.out, HT.out⟩
set_option maxHeartbeats 2000000 in
theorem lay_down (w : World) (lo hi g : Nat) (mp A q : Option Addr) (c : Nat) (M : List Bool) (l : List Cel) (S : List Bool → List Bool) (B : Nat) (h : BufM w lo hi g mp A c M l)
    (hS : ∀ w' M', BufM w' lo hi g mp A c M' l → Turn lo hi w w' → MaskP w' B q (S M')) (at_ f n : Nat) (h1 : at_ + n ≤ M.length) (h2 : f < at_) (h3 : f + n ≤ 1048576) (h4 : M.length ≤ 1048576)
    (hr : ∀ k, k < n → (S (layB M at_ (S M) f (k + 1) n)).getD (f + k) false = (S M).getD (f + k) false) :
    Calls Try.prog 31 #[.agg #[.pointer mp], .int .i64 at_, .agg #[.pointer q], .int .i64 f, .int .i64 n] w (Laid w lo hi g mp A c (layB M at_ (S M) f 0 n) l) := by
  have H := Lib.hid h
  have HS := Lib.hid hS
  have HR := Lib.hid hr
  have HST := Lib.hid (lay_start h #[.pointer mp] #[.pointer q] 62 62)
  have HLO := Lib.hid h.2.2.1
  clear h hS hr
  go_enter Try.func31, Try.ntmps31
  go_wp2_with fail
  go_loopw [13] (fun i wr => ∃ x : Nat, x ≤ n ∧ i = .int .i64 x ∧ BufM wr lo hi g mp A c (layB M at_ (S M) f (n - x) n) l ∧ Turn lo hi w wr ∧ Box wr w.heap.size 62 #[.pointer mp] ∧ Box wr (w.heap.size + 1) 62 #[.pointer q]) (fun i _ => n - (intOf i).toNat)
  case atStart => exact ⟨0, by omega, rfl, by rw [Nat.sub_zero, layB_none]; exact HST.out.1, HST.out.2, (Box.fresh w _ _).alloc _, by have := Box.fresh (w.alloc (.cells #[.pointer mp] 62)) 62 #[.pointer q]; rwa [show (w.alloc (.cells #[.pointer mp] 62)).heap.size = w.heap.size + 1 by simp] at this⟩
  case round =>
    obtain ⟨x, hx, rfl, hb, ht, hx1, hx2⟩ := hrel
    by_cases hlt : x < n
    · obtain ⟨k, hk⟩ : ∃ k, n = x + k + 1 := ⟨n - x - 1, by omega⟩
      rw [show n - x = k + 1 by omega] at hb
      have c1 : wr.cell? ⟨w.heap.size, 0, none⟩ = some (.pointer mp) := by rw [hx1.get]; rfl
      have c2 : wr.cell? ⟨w.heap.size + 1, 0, none⟩ = some (.pointer q) := by rw [hx2.get]; rfl
      have HP := Lib.hid (HS.out wr _ hb ht)
      have HBM := Lib.hid hb
      have HT := Lib.hid ht
      have HX1 := Lib.hid hx1
      have HX2 := Lib.hid hx2
      have HTR := Lib.hid (show tr (S (layB M at_ (S M) f (k + 1) n)) ((f : Int) + (k : Int)) = (S M).getD (f + k) false by rw [← HR.out k (by omega), ← tr_nat]; rfl)
      have hw1 : IntKind.i64.wrap ((at_ : Int) + (k : Int)) = (at_ : Int) + (k : Int) := IntWalk.i64_in _ (by omega)
      have hw2 : IntKind.i64.wrap ((f : Int) + (k : Int)) = (f : Int) + (k : Int) := IntWalk.i64_in _ (by omega)
      have hk1 : (n : Int) - 1 - (x : Int) = (k : Int) := by omega
      have HK := Lib.hid hk
      clear hb ht hx1 hx2 hk
      generalize hy : (S M).getD (f + k) false = y at *
      have HY := Lib.hid hy
      clear hy
      go_wp2_with fail
      go_region_held3 (fun w' => w'.cell? ⟨w.heap.size, 0, none⟩ = some (.pointer mp) ∧ w'.cell? ⟨w.heap.size + 1, 0, none⟩ = some (.pointer q)) (first | go_keep | exact KEEP2.out | exact KEEP.out) (first
        | (go_at_call 32; refine (there_any q _ _ B _ (HP.out.drewN _)).mono ?_; rw [HTR.out]; rintro e w2 ⟨rfl, hg2⟩; have KEEP := Lib.hid (two_kept HX1.out HX2.out hg2); have HBM2 := Lib.hid ((HBM.out.drewN _).grow hg2); have HT2 := Lib.hid ((HT.out.drewN _).grown hg2); have HXX := Lib.hid (And.intro (HX1.out.grownN hg2) (HX2.out.grownN hg2)); clear hg2)
        | (go_at_call 40; refine (maskSet_any _ lo hi g mp A c _ l (at_ + k) y HBM2.out (by rw [layB_length]; have := HK.out; omega)).mono ?_; rintro e w3 ⟨rfl, hb3, ht3⟩; have HBM3 := Lib.hid hb3; have HT3 := Lib.hid (HT2.out.trans ht3); have HXX3 := Lib.hid (And.intro (ht3.box HXX.out.1 (.inr HLO.out)) (ht3.box HXX.out.2 (.inr (by have := HLO.out; omega)))); have KEEP2 := Lib.hid (two_boxes HXX3.out.1 HXX3.out.2); clear hb3 ht3))
      all_goals go_wp2
      all_goals clear hw1 hw2 hk1
      all_goals go_roundw
      case rel => exact ⟨x + 1, by omega, by go_num, by rw [show n - (x + 1) = k by have := HK.out; omega, ← layB_down M at_ (S M) f k n h1 (by have := HK.out; omega) y HY.out.symm]; exact HBM3.out, HT3.out, HXX3.out.1, HXX3.out.2⟩
      case measure => simp [intOf]; omega
    · obtain rfl : x = n := by omega
      have HBM := Lib.hid hb
      have HT := Lib.hid ht
      clear hb ht hx1 hx2
      go_wp2
      exact bodyPost_ret (v := .tuple #[]) (by simp [results, Try.results31, go_sem]) rfl ⟨rfl, by have h := HBM.out; rw [Nat.sub_self] at h; exact h, HT.out⟩
end Go.Proofs.Ytabkgdichlebmaa
