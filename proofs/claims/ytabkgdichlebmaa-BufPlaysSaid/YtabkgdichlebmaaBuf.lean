/-
  A BUF IN MEMORY, AND WHAT READS IT: buf.some, Len, has, there, marked.
-/
import Derived.Test.YtabkgdichlebmaaCel
import Derived.Test.YtabkgdichlebmaaPair
import Derived.Test.YtabkgdichlebmaaCount
namespace Go.Proofs.Ytabkgdichlebmaa
open Go.ChangeShapes Go.WideShapes Go.ChangeAt Go.RowKit
set_option linter.unusedVariables false

theorem own_map {A : Option Addr} {n c x : Nat} (h : (Value.slice A n c).ownBlock = some x) : A.map (·.block) = some x := by cases A <;> simp_all [Value.ownBlock]
theorem map_own' {A : Option Addr} {n c x : Nat} (h : A.map (·.block) = some x) : (Value.slice A n c).ownBlock = some x := by cases A <;> simp_all [Value.ownBlock]
/-- p points to a Mask of these truths, or to none; its blocks are from lo on, ahead of hi. -/
def MaskI (w : World) (lo hi : Nat) (p : Option Addr) (l : List Bool) : Prop :=
  (p = none ∧ l = []) ∨ ∃ g A k c, p = some ⟨g, 0, none⟩ ∧ g < hi ∧ Mask w lo g A k c l ∧ ∀ x, A.map (·.block) = some x → lo ≤ x ∧ x < hi
section
variable {w w' : World} {lo hi lo' hi' : Nat} {mp : Option Addr} {l : List Bool}
theorem MaskI.p (h : MaskI w lo hi mp l) : MaskP w lo mp l := by
  rcases h with h | ⟨g, A, k, c, e, _, h, _⟩
  · exact .inl h
  · exact .inr ⟨g, A, k, c, e, h⟩
theorem MaskI.drewN (h : MaskI w lo hi mp l) (n : Nat) : MaskI (w.drewN n) lo hi mp l := h
theorem MaskI.grow (h : MaskI w lo hi mp l) (hg : w.grownBy w' none) : MaskI w' lo hi mp l := by
  rcases h with h | ⟨g, A, k, c, e, h1, h2, h3⟩
  · exact .inl h
  · exact .inr ⟨g, A, k, c, e, h1, h2.grow hg, h3⟩
theorem Mask.turned {g k c : Nat} {A : Option Addr} {B : Nat} (h : Mask w B g A k c l) (ht : Turn lo' hi' w w') (hg : g < lo' ∨ hi' ≤ g) (hA : ∀ x, A.map (·.block) = some x → x < lo' ∨ hi' ≤ x) : Mask w' B g A k c l :=
  ⟨h.1, h.2.1, ht.box h.2.2.1 hg, ht.own h.2.2.2 fun x hx => hA x (own_map hx)⟩
theorem MaskI.turned (h : MaskI w lo hi mp l) (ht : Turn lo' hi' w w') (hd : hi ≤ lo' ∨ hi' ≤ lo) : MaskI w' lo hi mp l := by
  rcases h with h | ⟨g, A, k, c, e, h1, h2, h3⟩
  · exact .inl h
  · have := h2.2.1
    exact .inr ⟨g, A, k, c, e, h1, h2.turned ht (by omega) (fun x hx => by have := h3 x hx; omega), h3⟩
theorem NewMask.i {e : Ending} (h : NewMask l w e w') : ∃ q, e = .returned (.pointer (some q)) ∧ MaskI w' w.heap.size w'.heap.size (some q) l ∧ w.grownBy w' none := by
  obtain ⟨g, A, k, c, rfl, hm, hg⟩ := h
  refine ⟨_, rfl, .inr ⟨g, A, k, c, rfl, hm.2.2.1.small, hm, fun x hx => ?_⟩, hg⟩
  exact hm.2.2.2.lt x (map_own' hx)
theorem MaskI.more (h : MaskI w lo hi mp l) (hl : lo' ≤ lo) (hh : hi ≤ hi') : MaskI w lo' hi' mp l := by
  rcases h with h | ⟨g, A, k, c, e, h1, h2, h3⟩
  · exact .inl h
  · exact .inr ⟨g, A, k, c, e, by omega, h2.lower hl, fun x hx => by have := h3 x hx; omega⟩
end

/-- the Buf at block g has the numbers of these cells, and these marks; its blocks are from lo on, ahead of hi. -/
def BufM (w : World) (lo hi g : Nat) (mp A : Option Addr) (c : Nat) (M : List Bool) (l : List Cel) : Prop :=
  lo ≤ g ∧ g < hi ∧ hi ≤ w.heap.size ∧ l.length ≤ 1048576 ∧ Box w g 65 #[.pointer mp, .slice A l.length c] ∧ MaskI w lo hi mp M ∧
    w.ownsRow lo 2 1 (.slice A l.length c) l.length (numsV l) ∧ ∀ x, A.map (·.block) = some x → lo ≤ x ∧ x < hi
/-- the Buf at block g tells these cells. -/
def BufG (w : World) (lo hi g : Nat) (mp A : Option Addr) (c : Nat) (l : List Cel) : Prop := BufM w lo hi g mp A c (oks l) l
/-- p points to a Buf of these cells, or to none. -/
def BufP (w : World) (lo hi : Nat) (p : Option Addr) (l : List Cel) : Prop := (p = none ∧ l = []) ∨ ∃ g mp A c, p = some ⟨g, 0, none⟩ ∧ BufG w lo hi g mp A c l
section
variable {w w' : World} {lo hi lo' hi' g c : Nat} {q mp A : Option Addr} {l : List Cel}
theorem BufG.p (h : BufG w lo hi g mp A c l) : BufP w lo hi (some ⟨g, 0, none⟩) l := .inr ⟨g, mp, A, c, rfl, h⟩
theorem BufM.small {M : List Bool} (h : BufM w lo hi g mp A c M l) : l.length ≤ 1048576 := h.2.2.2.1
theorem BufM.box {M : List Bool} (h : BufM w lo hi g mp A c M l) : Box w g 65 #[.pointer mp, .slice A l.length c] := h.2.2.2.2.1
theorem BufM.mask_cell {M : List Bool} (h : BufM w lo hi g mp A c M l) : w.cell? ⟨g, 0, none⟩ = some (.pointer mp) := by rw [h.box.get]; rfl
theorem BufM.nums_cell {M : List Bool} (h : BufM w lo hi g mp A c M l) : w.cell? ⟨g, 1, none⟩ = some (.slice A l.length c) := by rw [h.box.get]; rfl
theorem BufM.mask {M : List Bool} (h : BufM w lo hi g mp A c M l) : MaskI w lo hi mp M := h.2.2.2.2.2.1
theorem BufM.own {M : List Bool} (h : BufM w lo hi g mp A c M l) : w.ownsRow lo 2 1 (.slice A l.length c) l.length (numsV l) := h.2.2.2.2.2.2.1
theorem BufM.drewN {M : List Bool} (h : BufM w lo hi g mp A c M l) (n : Nat) : BufM (w.drewN n) lo hi g mp A c M l := h
theorem BufM.turned {M : List Bool} (h : BufM w lo hi g mp A c M l) (ht : Turn lo' hi' w w') (hd : hi ≤ lo' ∨ hi' ≤ lo) : BufM w' lo hi g mp A c M l := by
  obtain ⟨h1, h2, h3, h4, h5, h6, h7, h8⟩ := h
  refine ⟨h1, h2, Nat.le_trans h3 ht.size, h4, ht.box h5 (by omega), h6.turned ht hd, ht.own h7 fun x hx => ?_, h8⟩
  have := h8 x (own_map hx)
  omega
theorem BufM.grow {M : List Bool} (h : BufM w lo hi g mp A c M l) (hg : w.grownBy w' none) : BufM w' lo hi g mp A c M l := h.turned (Turn.of_grown (lo := 0) (hi := 0) hg) (.inr (Nat.zero_le _))
theorem BufG.small (h : BufG w lo hi g mp A c l) : l.length ≤ 1048576 := BufM.small h
theorem BufG.mask_cell (h : BufG w lo hi g mp A c l) : w.cell? ⟨g, 0, none⟩ = some (.pointer mp) := BufM.mask_cell h
theorem BufG.nums_cell (h : BufG w lo hi g mp A c l) : w.cell? ⟨g, 1, none⟩ = some (.slice A l.length c) := BufM.nums_cell h
theorem BufG.mask (h : BufG w lo hi g mp A c l) : MaskI w lo hi mp (oks l) := BufM.mask h
theorem BufG.own (h : BufG w lo hi g mp A c l) : w.ownsRow lo 2 1 (.slice A l.length c) l.length (numsV l) := BufM.own h
theorem BufG.drewN (h : BufG w lo hi g mp A c l) (n : Nat) : BufG (w.drewN n) lo hi g mp A c l := h
theorem BufG.turned (h : BufG w lo hi g mp A c l) (ht : Turn lo' hi' w w') (hd : hi ≤ lo' ∨ hi' ≤ lo) : BufG w' lo hi g mp A c l := BufM.turned h ht hd
theorem BufG.grow (h : BufG w lo hi g mp A c l) (hg : w.grownBy w' none) : BufG w' lo hi g mp A c l := BufM.grow h hg
theorem BufG.wide (h : BufG w lo hi g mp A c l) : BufG w lo w.heap.size g mp A c l := by
  obtain ⟨h1, h2, h3, h4, h5, h6, h7, h8⟩ := h
  exact ⟨h1, by omega, Nat.le_refl _, h4, h5, h6.more (Nat.le_refl _) h3, h7, fun x hx => by have := h8 x hx; omega⟩
theorem BufP.nil (w : World) (lo hi : Nat) : BufP w lo hi none [] := .inl ⟨rfl, rfl⟩
theorem BufP.small (h : BufP w lo hi q l) : l.length ≤ 1048576 := by
  rcases h with ⟨_, rfl⟩ | ⟨g, mp, A, c, _, h⟩
  · simp
  · exact h.small
theorem BufP.drewN (h : BufP w lo hi q l) (n : Nat) : BufP (w.drewN n) lo hi q l := h
theorem BufP.turned (h : BufP w lo hi q l) (ht : Turn lo' hi' w w') (hd : hi ≤ lo' ∨ hi' ≤ lo) : BufP w' lo hi q l := by
  rcases h with h | ⟨g, mp, A, c, e, h⟩
  · exact .inl h
  · exact .inr ⟨g, mp, A, c, e, h.turned ht hd⟩
theorem BufP.grow (h : BufP w lo hi q l) (hg : w.grownBy w' none) : BufP w' lo hi q l := h.turned (Turn.of_grown (lo := 0) (hi := 0) hg) (.inr (Nat.zero_le _))
end

/-- v is answered, nothing that was there has turned. -/
def Gave (v : Value) (w : World) (e : Ending) (w' : World) : Prop := e = .returned v ∧ w.grownBy w' none
theorem gave_same {v : Value} {w : World} : Gave v w (.returned v) w := ⟨rfl, grown_refl _ _⟩
theorem gave_eq {v v' : Value} {w w' : World} (h : v = v') (hg : w.grownBy w' none) : Gave v w (.returned v') w' := ⟨by rw [h], hg⟩

/-! ### some, Len -/
theorem some_ptr (a : Addr) (w : World) : Calls Try.prog 29 #[.pointer (some a)] w fun e w' => e = .returned (.pointer (some a)) ∧ w' = w := by
  go_enter Try.func29, Try.ntmps29
  go_wp2
  go_ret
  exact ⟨rfl, rfl⟩
theorem some_nil (w : World) : Calls Try.prog 29 #[.pointer none] w fun e w' => e = .returned (.pointer (some ⟨w.heap.size, 0, none⟩)) ∧ w' = w.alloc (.cells #[.pointer none, .slice none 0 0] 65) := by
  go_enter Try.func29, Try.ntmps29
  go_wp2
  go_ret
  exact ⟨rfl, rfl⟩
/-- a Buf of no cells, made for a nil one. -/
theorem buf_empty (w : World) : BufG (w.alloc (.cells #[.pointer none, .slice none 0 0] 65)) w.heap.size (w.heap.size + 1) w.heap.size none none 0 [] :=
  ⟨Nat.le_refl _, by omega, by simp, by simp, Box.fresh w _ _, .inl ⟨rfl, rfl⟩, World.ownsRow_nil _ _ _ _, fun x hx => by simp at hx⟩
/-- some, of whatever Buf. -/
theorem some_any (p : Option Addr) (l : List Cel) (lo hi : Nat) (w : World) (h : BufP w lo hi p l) :
    Calls Try.prog 29 #[.pointer p] w fun e w' => ∃ g lo' hi' mp A c, e = .returned (.pointer (some ⟨g, 0, none⟩)) ∧ BufG w' lo' hi' g mp A c l ∧ w.grownBy w' none ∧ ((lo' = lo ∧ hi' = hi ∧ hi ≤ w.heap.size ∧ p = some ⟨g, 0, none⟩) ∨ (w.heap.size ≤ lo' ∧ l = [] ∧ p = none)) := by
  rcases h with ⟨rfl, rfl⟩ | ⟨g, mp, A, c, rfl, h⟩
  · refine (some_nil w).mono fun e w' ⟨h1, h2⟩ => ?_
    subst h1; subst h2
    exact ⟨_, _, _, _, _, _, rfl, buf_empty w, World.grownBy_alloc _ _ _, .inr ⟨Nat.le_refl _, rfl, rfl⟩⟩
  · refine (some_ptr _ w).mono fun e w' ⟨h1, h2⟩ => ?_
    subst h1; subst h2
    exact ⟨g, lo, hi, mp, A, c, rfl, h, grown_refl _ _, .inl ⟨rfl, rfl, h.2.2.1, rfl⟩⟩
theorem buflen_any (p : Option Addr) (l : List Cel) (lo hi : Nat) (w : World) (h : BufP w lo hi p l) :
    Calls Try.prog 22 #[.pointer p] w (Gave (.int .i64 (l.length : Nat)) w) := by
  have H := Lib.hid h
  clear h
  go_enter Try.func22, Try.ntmps22
  go_wp2_with fail
  refine (some_any p l lo hi w H.out).mono ?_
  rintro e w1 ⟨g, lo', hi', mp, A, c, rfl, hb, hg, _⟩
  have hc := hb.nums_cell
  have HG := Lib.hid hg
  clear hb hg
  go_wp2_with fail
  go_ret
  exact ⟨rfl, HG.out⟩
/-- are there n cells from i on? -/
def hasN (m : Nat) (i n : Int) : Bool := decide (0 ≤ i ∧ 0 ≤ n ∧ n ≤ m - i)
theorem bufhas_any (p : Option Addr) (l : List Cel) (i n : Int) (hi' : I64 i) (hn : I64 n) (lo hi : Nat) (w : World) (h : BufP w lo hi p l) :
    Calls Try.prog 28 #[.pointer p, .int .i64 i, .int .i64 n] w (Gave (.bool (hasN l.length i n)) w) := by
  have H := Lib.hid h
  have hs := h.small
  unfold I64 at hi' hn
  clear h
  by_cases h0 : 0 ≤ i
  · by_cases h1 : 0 ≤ n
    · go_enter Try.func28, Try.ntmps28
      go_wp2_with fail
      refine (buflen_any p l lo hi w H.out).mono ?_
      rintro e w1 ⟨rfl, hg⟩
      have HG := Lib.hid hg
      clear hg
      go_wp2_with fail
      go_ret
      exact gave_eq (by unfold hasN; congr 1; simp [h0, h1]) HG.out
    · go_enter Try.func28, Try.ntmps28
      go_wp2_with fail
      go_ret
      exact gave_eq (by unfold hasN; congr 1; simp; omega) (grown_refl _ _)
  · go_enter Try.func28, Try.ntmps28
    go_wp2_with fail
    go_ret
    exact gave_eq (by unfold hasN; congr 1; simp; omega) (grown_refl _ _)

/-! ### the marks -/
theorem there_any (mp : Option Addr) (l : List Bool) (i : Int) (B : Nat) (w : World) (h : MaskP w B mp l) :
    Calls Try.prog 32 #[.agg #[.pointer mp], .int .i64 i] w (Gave (.bool (tr l i)) w) := by
  have H := Lib.hid h
  clear h
  go_enter Try.func32, Try.ntmps32
  go_wp2_with fail
  refine (get_any mp l i B _ (H.out.grow (World.grownBy_alloc _ _ none))).mono ?_
  rintro e w1 ⟨rfl, hww⟩
  subst hww
  go_wp2_with fail
  go_ret
  exact ⟨rfl, World.grownBy_alloc _ _ _⟩
theorem marked_any (mp : Option Addr) (l : List Bool) (B : Nat) (w : World) (h : MaskP w B mp l) :
    Calls Try.prog 33 #[.agg #[.pointer mp]] w (Gave (.int .i64 (cnt l : Nat)) w) := by
  have H := Lib.hid h
  clear h
  go_enter Try.func33, Try.ntmps33
  go_wp2_with fail
  refine (count_any mp l B _ (H.out.grow (World.grownBy_alloc _ _ none))).mono ?_
  rintro e w1 ⟨rfl, hww⟩
  subst hww
  go_wp2_with fail
  go_ret
  exact ⟨rfl, World.grownBy_alloc _ _ _⟩
theorem alike_any (mp mp' : Option Addr) (l l' : List Bool) (B B' : Nat) (w : World) (h : MaskP w B mp l) (h' : MaskP w B' mp' l') :
    Calls Try.prog 35 #[.agg #[.pointer mp], .agg #[.pointer mp']] w (Gave (.bool (decide (l = l'))) w) := by
  have H := Lib.hid h
  have H' := Lib.hid h'
  clear h h'
  go_enter Try.func35, Try.ntmps35
  go_wp2_with fail
  refine (bsame_any mp mp' l l' B B' _ ((H.out.grow (World.grownBy_alloc _ _ none)).grow (World.grownBy_alloc _ _ none)) ((H'.out.grow (World.grownBy_alloc _ _ none)).grow (World.grownBy_alloc _ _ none))).mono ?_
  rintro e w1 ⟨rfl, m, hww⟩
  subst hww
  go_wp2_with fail
  go_ret
  exact ⟨rfl, grown_drewN (grown_alloc (grown_alloc (grown_refl _ _) _) _) _⟩
theorem copied_any (mp : Option Addr) (l : List Bool) (B : Nat) (w : World) (h : MaskP w B mp l) :
    Calls Try.prog 36 #[.agg #[.pointer mp]] w fun e w' => ∃ q, e = .returned (.agg #[.pointer (some q)]) ∧ MaskI w' w.heap.size w'.heap.size (some q) l ∧ w.grownBy w' none := by
  have H := Lib.hid h
  clear h
  go_enter Try.func36, Try.ntmps36
  go_wp2_with fail
  refine (clone_any mp l B _ ((H.out.grow (World.grownBy_alloc _ _ none)).grow (World.grownBy_alloc _ _ none))).mono ?_
  rintro e w1 hn
  obtain ⟨q, rfl, hm, hg⟩ := hn.i
  have hbx := (Box.fresh (w.alloc (.cells #[.pointer mp] 62)) 62 #[.pointer none]).grown hg (by simp)
  have hbc := hbx.get 0
  have hbf := hbx.free 0
  have hbp := (hbx.put 0 (.pointer (some q))).get 0
  simp at hbc hbf hbp
  have HBX := Lib.hid hbx
  clear hbx
  have HM := Lib.hid hm
  have HG := Lib.hid hg
  clear hm hg hn
  go_wp2_with fail
  refine bodyPost_ret (v := .agg #[.pointer (some q)]) (by simp [results, Try.results36, go_sem, hbp]) rfl ⟨q, rfl, ?_, ?_⟩
  · refine ((HM.out.turned (lo' := (w.alloc (.cells #[.pointer mp] 62)).heap.size) (hi' := (w.alloc (.cells #[.pointer mp] 62)).heap.size + 1) ?_ (.inr (by simp))).more (by simp; omega) (by simp [World.setCell]))
    exact Turn.of_row (r := some (w.alloc (.cells #[.pointer mp] 62)).heap.size) (grown_put (grown_refl _ _) (.inl (by simp)) _) (fun x hx => by injection hx with hx; omega)
  · exact grown_put (grown_join (grown_alloc (grown_alloc (grown_refl _ _) _) _) HG.out (.inr (by simp))) (.inr (by omega)) _
end Go.Proofs.Ytabkgdichlebmaa
