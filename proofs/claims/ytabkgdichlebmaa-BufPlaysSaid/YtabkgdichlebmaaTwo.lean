/-
  TWO BUFS THAT LIE APART, AND THEIR LISTS AS THE LAW HOLDS THEM: what each act leaves.
-/
import Derived.Test.YtabkgdichlebmaaKnows3
namespace Go.Proofs.Ytabkgdichlebmaa
open Go.ChangeShapes Go.WideShapes Go.ChangeAt Go.RowKit
set_option linter.unusedVariables false

/-- p and q point to Bufs of these cells, apart from each other, between L and U. -/
def Two (w : World) (L U : Nat) (p q : Option Addr) (l m : List Cel) : Prop :=
  ∃ lo hi g mp A c lo' hi' g' mp' A' c', p = some ⟨g, 0, none⟩ ∧ q = some ⟨g', 0, none⟩ ∧ BufG w lo hi g mp A c l ∧ BufG w lo' hi' g' mp' A' c' m ∧ (hi ≤ lo' ∨ hi' ≤ lo) ∧ L ≤ lo ∧ hi ≤ U ∧ L ≤ lo' ∧ hi' ≤ U
/-- the slice at A holds these cells, outside the blocks from L on, ahead of U. -/
def CelsX (w : World) (L U : Nat) (A : Option Addr) (n c : Nat) (l : List Cel) : Prop :=
  Cels w w.heap.size A n l ∧ (A = none → c = 0) ∧ (0 < n → ∀ a, A = some a → a.block < L ∨ U ≤ a.block)
section
variable {w w' : World} {L U n c : Nat} {p q A : Option Addr} {l m l' : List Cel}
theorem Two.symm (h : Two w L U p q l m) : Two w L U q p m l := by
  obtain ⟨lo, hi, g, mp, A, c, lo', hi', g', mp', A', c', h1, h2, h3, h4, h5, h6, h7, h8, h9⟩ := h
  exact ⟨lo', hi', g', mp', A', c', lo, hi, g, mp, A, c, h2, h1, h4, h3, h5.symm, h8, h9, h6, h7⟩
theorem Two.grow (h : Two w L U p q l m) (hg : w.grownBy w' none) : Two w' L U p q l m := by
  obtain ⟨lo, hi, g, mp, A, c, lo', hi', g', mp', A', c', h1, h2, h3, h4, h5, h6, h7, h8, h9⟩ := h
  exact ⟨lo, hi, g, mp, A, c, lo', hi', g', mp', A', c', h1, h2, h3.grow hg, h4.grow hg, h5, h6, h7, h8, h9⟩
theorem Two.drewN (h : Two w L U p q l m) (k : Nat) : Two (w.drewN k) L U p q l m := h
theorem Two.bufp (h : Two w L U p q l m) : ∃ lo hi, BufP w lo hi p l := by
  obtain ⟨lo, hi, g, mp, A, c, _, _, _, _, _, _, rfl, _, h3, _⟩ := h
  exact ⟨lo, hi, h3.p⟩
theorem Two.small (h : Two w L U p q l m) : l.length ≤ 1048576 := by
  obtain ⟨lo, hi, h⟩ := h.bufp
  exact h.small
theorem Turn.wide {lo hi : Nat} (h : Turn lo hi w w') (hl : L ≤ lo) (hh : hi ≤ U) : Turn L U w w' :=
  ⟨h.1, h.2.1, h.2.2.1, h.2.2.2.1, fun x hx hd => h.2.2.2.2 x hx (by omega)⟩
/-- the first one has turned. -/
theorem Two.turned {lo hi g c : Nat} {mp A : Option Addr} {lo' hi' g' c' : Nat} {mp' A' : Option Addr} (h3 : BufG w' lo hi g mp A c l') (ht : Turn lo hi w w') (h4 : BufG w lo' hi' g' mp' A' c' m)
    (h5 : hi ≤ lo' ∨ hi' ≤ lo) (h6 : L ≤ lo) (h7 : hi ≤ U) (h8 : L ≤ lo') (h9 : hi' ≤ U) : Two w' L U (some ⟨g, 0, none⟩) (some ⟨g', 0, none⟩) l' m :=
  ⟨lo, hi, g, mp, A, c, lo', hi', g', mp', A', c', rfl, rfl, h3, h4.turned ht (by omega), h5, h6, h7, h8, h9⟩
theorem CelsX.cels (h : CelsX w L U A n c l) : Cels w w.heap.size A n l := h.1
theorem CelsX.grow (h : CelsX w L U A n c l) (hg : w.grownBy w' none) : CelsX w' L U A n c l := ⟨h.1.grow hg, h.2⟩
theorem CelsX.drewN (h : CelsX w L U A n c l) (k : Nat) : CelsX (w.drewN k) L U A n c l := h
theorem CelsX.turned (h : CelsX w L U A n c l) (ht : Turn L U w w') : CelsX w' L U A n c l := by
  refine ⟨⟨h.1.1, fun h0 => ?_⟩, h.2⟩
  obtain ⟨b, off, e, hb, hc⟩ := h.1.2 h0
  have hd := h.2.2 h0 _ e
  refine ⟨b, off, e, Nat.lt_of_lt_of_le hb ht.size, fun k hk => ⟨?_, ?_⟩⟩
  · exact (ht.cell (p := ⟨b, off + k * 2, none⟩) hb hd).trans (hc k hk).1
  · exact (ht.cell (p := ⟨b, off + k * 2 + 1, none⟩) hb hd).trans (hc k hk).2
theorem OwnC.x {base : Nat} {e : TypeId} (h : OwnC w base e A n c l) (hb : U ≤ base) : CelsX w L U A n c l := by
  refine ⟨h.cels, fun e => ?_, fun _ a e => ?_⟩
  · subst e
    rcases h.2.2 with ⟨e, _⟩ | ⟨_, _, _, e, _⟩
    · injection e
    · injection e with e; cases e
  · subst e
    have := h.2.lt a.block rfl
    exact .inr (by omega)
end
/-! ### lists -/
def putE (l : List Cel) (i : Int) (x : Cel) : List Cel := if hasN l.length i 1 then fillC l i.toNat (i.toNat + 1) x else l
def fillCE (l : List Cel) (f t : Int) (x : Cel) : List Cel := if fillB (oks l) f t then fillC l f.toNat t.toNat x else l
def layCE (l : List Cel) (a : Int) (m : List Cel) (f n : Int) : List Cel := if copyB l a m f n then layC l a.toNat m f.toNat n.toNat else l
theorem putE_length (l : List Cel) (i : Int) (x : Cel) : (putE l i x).length = l.length := by unfold putE; split <;> simp [fillC_length]
theorem fillCE_length (l : List Cel) (f t : Int) (x : Cel) : (fillCE l f t x).length = l.length := by unfold fillCE; split <;> simp [fillC_length]
theorem layCE_length (l : List Cel) (a : Int) (m : List Cel) (f n : Int) : (layCE l a m f n).length = l.length := by unfold layCE; split <;> simp [layC_length]
theorem fillC_set (l : List Cel) (i : Nat) (x : Cel) (h : i < l.length) : fillC l i (i + 1) x = l.set i x := by
  refine cels_eq (by rw [fillC_length, List.length_set]) fun j hj => ?_
  rw [fillC_length] at hj
  rw [fillC_get _ _ _ _ _ hj]
  by_cases e : j = i
  · subst e
    rw [if_pos (by omega)]
    simp [List.getD, hj]
  · rw [if_neg (by omega)]
    simp only [List.getD]
    rw [List.getElem?_set_ne (Ne.symm e)]
theorem fillC_more (l : List Cel) (f k : Nat) (x : Cel) (hf : f ≤ k) (h : k < l.length) : (fillC l f k x).set k x = fillC l f (k + 1) x := by
  refine cels_eq (by rw [List.length_set, fillC_length, fillC_length]) fun j hj => ?_
  rw [List.length_set, fillC_length] at hj
  rw [fillC_get _ _ _ _ _ hj]
  by_cases e : j = k
  · subst e
    rw [if_pos (by omega)]
    simp [List.getD, fillC_length, hj]
  · simp only [List.getD]
    rw [List.getElem?_set_ne (Ne.symm e)]
    have := fillC_get l f k x j hj
    simp only [List.getD] at this
    rw [this]
    by_cases h2 : f ≤ j ∧ j < k
    · rw [if_pos h2, if_pos (by omega)]
    · rw [if_neg h2, if_neg (by omega)]
/-! ### calls -/
/-- b is told; the first of the two is another one, all else as it was. -/
def TwoEnd (w : World) (L U : Nat) (p q : Option Addr) (b : Bool) (l m : List Cel) (e : Ending) (w' : World) : Prop := e = .returned (.bool b) ∧ Two w' L U p q l m ∧ Turn L U w w'
theorem two_put (w : World) (L U : Nat) (p q : Option Addr) (l m : List Cel) (h : Two w L U p q l m) (i : Int) (hi : I64 i) (x : Cel) :
    Calls Try.prog 9 #[.pointer p, .int .i64 i, .agg #[.int .i64 x.v, .bool x.ok]] w (TwoEnd w L U p q (hasN l.length i 1) (putE l i x) m) := by
  obtain ⟨lo, hi', g, mp, A, c, lo', hi'', g', mp', A', c', rfl, rfl, h3, h4, h5, h6, h7, h8, h9⟩ := h
  unfold putE
  cases hb : hasN l.length i 1
  · rw [if_neg (by simp)]
    refine (bufPut_no w lo hi' _ l i x hi h3.p hb).mono fun e w' ⟨e1, e2, e3⟩ => ?_
    rcases e2 with ⟨e, _⟩ | ⟨g1, mp1, A1, c1, e, hb1⟩
    · cases e
    · injection e with e; injection e with e
      subst e
      exact ⟨e1, Two.turned hb1 e3 h4 h5 h6 h7 h8 h9, e3.wide h6 h7⟩
  · rw [if_pos rfl]
    rw [hasN_one] at hb
    have hd := of_decide_eq_true hb
    obtain ⟨k, rfl⟩ : ∃ k : Nat, i = k := ⟨i.toNat, by omega⟩
    refine (bufPut_yes w lo hi' g mp A c l k x h3 (by omega)).mono fun e w' ⟨e1, e2, e3⟩ => ?_
    exact ⟨e1, Two.turned e2 e3 h4 h5 h6 h7 h8 h9, e3.wide h6 h7⟩
theorem two_fill (w : World) (L U : Nat) (p q : Option Addr) (l m : List Cel) (h : Two w L U p q l m) (f t : Int) (x : Cel) :
    Calls Try.prog 11 #[.pointer p, .int .i64 f, .int .i64 t, .agg #[.int .i64 x.v, .bool x.ok]] w (TwoEnd w L U p q (fillB (oks l) f t) (fillCE l f t x) m) := by
  obtain ⟨lo, hi', g, mp, A, c, lo', hi'', g', mp', A', c', rfl, rfl, h3, h4, h5, h6, h7, h8, h9⟩ := h
  unfold fillCE
  cases hb : fillB (oks l) f t
  · rw [if_neg (by simp)]
    refine (bufFill_no w lo hi' _ l f t x h3.p hb).mono fun e w' ⟨e1, e2, e3⟩ => ?_
    rcases e2 with ⟨e, _⟩ | ⟨g1, mp1, A1, c1, e, hb1⟩
    · cases e
    · injection e with e; injection e with e
      subst e
      exact ⟨e1, Two.turned hb1 e3 h4 h5 h6 h7 h8 h9, e3.wide h6 h7⟩
  · rw [if_pos rfl]
    have hd := of_decide_eq_true hb
    rw [oks_length] at hd
    obtain ⟨F, rfl⟩ : ∃ k : Nat, f = k := ⟨f.toNat, by omega⟩
    obtain ⟨T, rfl⟩ : ∃ k : Nat, t = k := ⟨t.toNat, by omega⟩
    refine (bufFill_yes w lo hi' g mp A c l F T x h3 (by omega) (by omega)).mono fun e w' ⟨e1, e2, e3⟩ => ?_
    exact ⟨e1, Two.turned e2 e3 h4 h5 h6 h7 h8 h9, e3.wide h6 h7⟩
theorem two_no {w w' : World} {L U : Nat} {p q : Option Addr} {l m : List Cel} {e : Ending} (h : Two w L U p q l m) (hg : Gave (.bool false) w e w') : TwoEnd w L U p q false l m e w' := ⟨hg.1, h.grow hg.2, Turn.of_grown hg.2⟩
theorem two_copy_self (w : World) (L U : Nat) (p q : Option Addr) (l m : List Cel) (h : Two w L U p q l m) (a f n : Int) (ha : I64 a) (hf : I64 f) (hn : I64 n) :
    Calls Try.prog 13 #[.pointer p, .int .i64 a, .pointer p, .int .i64 f, .int .i64 n] w (TwoEnd w L U p q (copyB l a l f n) (layCE l a l f n) m) := by
  unfold layCE
  cases hb : copyB l a l f n
  · rw [if_neg (by simp)]
    obtain ⟨lo, hi, hp⟩ := h.bufp
    exact (bufCopy_no p p w lo hi lo hi l l hp hp a f n ha hf hn hb).mono fun e w' hg => two_no h hg
  · rw [if_pos rfl]
    unfold copyB at hb
    rw [Bool.and_eq_true] at hb
    have h1 := of_decide_eq_true hb.1
    have h2 := of_decide_eq_true hb.2
    obtain ⟨F, rfl⟩ : ∃ k : Nat, f = k := ⟨f.toNat, by omega⟩
    obtain ⟨T, rfl⟩ : ∃ k : Nat, a = k := ⟨a.toNat, by omega⟩
    obtain ⟨K, rfl⟩ : ∃ k : Nat, n = k := ⟨n.toNat, by omega⟩
    obtain ⟨lo, hi', g, mp, A, c, lo', hi'', g', mp', A', c', rfl, rfl, h3, h4, h5, h6, h7, h8, h9⟩ := h
    refine (bufCopy_self w lo hi' g mp A c l h3 T F K (by omega) (by omega)).mono fun e w' ⟨e1, e2, e3⟩ => ?_
    exact ⟨e1, Two.turned e2 e3 h4 h5 h6 h7 h8 h9, e3.wide h6 h7⟩
theorem two_copy_other (w : World) (L U : Nat) (p q : Option Addr) (l m : List Cel) (h : Two w L U p q l m) (a f n : Int) (ha : I64 a) (hf : I64 f) (hn : I64 n) :
    Calls Try.prog 13 #[.pointer p, .int .i64 a, .pointer q, .int .i64 f, .int .i64 n] w (TwoEnd w L U p q (copyB l a m f n) (layCE l a m f n) m) := by
  unfold layCE
  cases hb : copyB l a m f n
  · rw [if_neg (by simp)]
    obtain ⟨lo, hi, hp⟩ := h.bufp
    obtain ⟨lo', hi', hq⟩ := h.symm.bufp
    exact (bufCopy_no p q w lo hi lo' hi' l m hp hq a f n ha hf hn hb).mono fun e w' hg => two_no h hg
  · rw [if_pos rfl]
    unfold copyB at hb
    rw [Bool.and_eq_true] at hb
    have h1 := of_decide_eq_true hb.1
    have h2 := of_decide_eq_true hb.2
    obtain ⟨F, rfl⟩ : ∃ k : Nat, f = k := ⟨f.toNat, by omega⟩
    obtain ⟨T, rfl⟩ : ∃ k : Nat, a = k := ⟨a.toNat, by omega⟩
    obtain ⟨K, rfl⟩ : ∃ k : Nat, n = k := ⟨n.toNat, by omega⟩
    obtain ⟨lo, hi', g, mp, A, c, lo', hi'', g', mp', A', c', rfl, rfl, h3, h4, h5, h6, h7, h8, h9⟩ := h
    refine (bufCopy_other w lo hi' g mp A c l lo' hi'' _ m h3 h4.p h5 T F K (by omega) (by omega)).mono fun e w' ⟨e1, e2, e3⟩ => ?_
    exact ⟨e1, Two.turned e2 e3 h4 h5 h6 h7 h8 h9, e3.wide h6 h7⟩
/-- what Get tells of a list. -/
def getC (l : List Cel) (i : Int) : Cel := if hasN l.length i 1 then (l.getD i.toNat noCel).norm else noCel
theorem two_get (w : World) (L U : Nat) (p q : Option Addr) (l m : List Cel) (h : Two w L U p q l m) (i : Int) (hi : I64 i) :
    Calls Try.prog 14 #[.pointer p, .int .i64 i] w (GaveCell (getC l i) (hasN l.length i 1) w) := by
  obtain ⟨lo, hi', g, mp, A, c, lo', hi'', g', mp', A', c', rfl, rfl, h3, _⟩ := h
  unfold getC
  cases hb : hasN l.length i 1
  · rw [if_neg (by simp)]
    exact bufGet_no w lo hi' _ l i hi h3.p hb
  · rw [if_pos rfl]
    rw [hasN_one] at hb
    have hd := of_decide_eq_true hb
    obtain ⟨k, rfl⟩ : ∃ k : Nat, i = k := ⟨i.toNat, by omega⟩
    exact bufGet_yes w lo hi' g mp A c l k h3 (by omega)
end Go.Proofs.Ytabkgdichlebmaa
