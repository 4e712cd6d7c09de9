/-
  Layer 6: the program's own table in memory; made, enough, Len, Room, Labels; nobody's table.
-/
import Derived.Test.YtfemfkiamipipaaRound6
import Derived.Test.YtfemfkiamipipaaNil6
import Derived.Test.YtfemfkiamipipaaApp6
import Derived.LaidEqlPtr
namespace Go.Proofs.Ytfemfkiamipipaa
open Go.ChangeShapes Go.WideShapes Go.ChangeAt Go.RowKit
set_option linter.unusedVariables false

/-- labels and slots in memory, of which labels the first k have their slots. -/
def TabI (w : World) (b g : Nat) (A : Option Addr) (c R : Nat) (Z : Array Value) (L : List Lab) (k : Nat) : Prop :=
  Box w b 56 #[.pointer (some ⟨b, 0, none⟩), .slice A L.length c, .slice (some ⟨g, 0, none⟩) R R] ∧ OwnL w 0 38 A L.length c L ∧
    Box w g 3 Z ∧ ∀ x, x < R → Z[x]? = some (.int .i64 (tabE R (hsOf L) k x : Nat))
/-- the table at q. -/
def OTab (w : World) (F : Nat → Prop) (q : Addr) (l : List Lab) : Prop :=
  ∃ (b g : Nat) (A : Option Addr) (c : Nat) (Z : Array Value), q = ⟨b, 0, none⟩ ∧ TabI w b g A c (roomE l.length) Z l l.length ∧ Good l ∧ Oks l ∧ F b ∧ F g ∧ (∀ a, A = some a → F a.block)
theorem TabI.grow {w w' : World} {b g : Nat} {A : Option Addr} {c R : Nat} {Z : Array Value} {L : List Lab} {k : Nat} (h : TabI w b g A c R Z L k) (hg : w.grownBy w' none) : TabI w' b g A c R Z L k :=
  ⟨h.1.grown hg (by simp), h.2.1.grow hg, h.2.2.1.grown hg (by simp), h.2.2.2⟩
theorem TabI.keep {G : Nat → Prop} {w w' : World} {b g : Nat} {A : Option Addr} {c R : Nat} {Z : Array Value} {L : List Lab} {k : Nat} (h : TabI w b g A c R Z L k) (hs : Spare G w w') (hb : ¬ G b) (hg : ¬ G g) (hA : ∀ a, A = some a → ¬ G a.block) : TabI w' b g A c R Z L k :=
  ⟨hs.box h.1 hb, ⟨h.2.1.1, hs.own h.2.1.2 (fun k hk => by
    rw [map_own] at hk
    cases A with
    | none => cases hk
    | some a => injection hk with hk; subst hk; exact hA a rfl)⟩, hs.box h.2.2.1 hg, h.2.2.2⟩
theorem OTab.keep {w w' : World} {F G : Nat → Prop} {q : Addr} {l : List Lab} (h : OTab w F q l) (hs : Spare G w w') (hd : ∀ x, F x → ¬ G x) : OTab w' F q l := by
  obtain ⟨b, g, A, c, Z, rfl, ht, h1, h2, h3, h4, h5⟩ := h
  exact ⟨b, g, A, c, Z, rfl, ht.keep hs (hd _ h3) (hd _ h4) (fun a e => hd _ (h5 a e)), h1, h2, h3, h4, h5⟩
theorem OTab.more {w : World} {F G : Nat → Prop} {q : Addr} {l : List Lab} (h : OTab w F q l) (hG : ∀ x, F x → G x) : OTab w G q l := by
  obtain ⟨b, g, A, c, Z, rfl, ht, h1, h2, h3, h4, h5⟩ := h
  exact ⟨b, g, A, c, Z, rfl, ht, h1, h2, hG _ h3, hG _ h4, fun a e => hG _ (h5 a e)⟩
theorem OTab.grow {w w' : World} {F : Nat → Prop} {q : Addr} {l : List Lab} (h : OTab w F q l) (hg : w.grownBy w' none) : OTab w' F q l :=
  h.keep (G := fun _ => False) (Spare.of_grown hg) (fun _ _ h => h)
theorem grown_from {w A B : World} {D : Nat} {row : Option Nat} (h : w.grownBy A none) (hg : A.grownBy B row) (hD : w.heap.size ≤ D) (hr : ∀ r, row = some r → D ≤ r ∧ ∃ o : Obj, A.heap[r]? = some o ∧ o.isCells = false) : w.grownBy B none :=
  grown_join h hg (.inr fun x e => Nat.le_trans hD (hr x e).1)
theorem box_from {A B : World} {D g : Nat} {t : TypeId} {cs : Array Value} {row : Option Nat} (h : Box A g t cs) (hg : A.grownBy B row) (hr : ∀ r, row = some r → D ≤ r ∧ ∃ o : Obj, A.heap[r]? = some o ∧ o.isCells = false) : Box B g t cs :=
  h.grown hg (fun e => by
    obtain ⟨_, o, ho, hc⟩ := hr g e.symm
    have h' : A.heap[g]? = _ := h
    rw [h'] at ho
    injection ho with ho
    subst ho
    cases hc)
theorem Box.past {w : World} {g g' j : Nat} {t : TypeId} {cs : Array Value} (h : Box w g t cs) (hne : g ≠ g') (v : Value) : Box (w.setCell ⟨g', j, none⟩ v) g t cs :=
  h.grown (grown_put (grown_refl w (some g')) (.inl rfl) v) (by intro e; injection e with e; exact hne e)
theorem keepT_t {A B C : World} (_ : KeepT A B) (_ : KeepT B C) : KeepT A C := trivial

/-! ### made -/
theorem info_tab : (Try.prog.info? 56).isSome = true := by kernel_rfl
theorem ptr_same (a : Addr) (w : World) : (binOp .eql 25 (.pointer (some a)) (.pointer (some a))).run Try.prog w = .ok (.bool true) w := by
  obtain ⟨j, hj⟩ := Option.isSome_iff_exists.1 info_tab
  exact run_eql_ptr_same w a Try.underlying25 hj
theorem ptr_none (a : Addr) (w : World) : (binOp .eql 25 (.pointer none) (.pointer (some a))).run Try.prog w = .ok (.bool false) w := by
  have h : ∀ d : Nat, (Op.equalIn (d + 1) 25 (.pointer none) (.pointer (some a))).run Try.prog w = .ok false w := fun d => by
    simp [Op.equalIn, run_underlying Try.underlying25]
  simp only [binOp]
  simp [Op.equal, Op.maxDepth, h 9999]
theorem made_yes (b : Nat) (s1 s2 : Value) (w : World) (h : Box w b 56 #[.pointer (some ⟨b, 0, none⟩), s1, s2]) : Calls Try.prog 26 #[.pointer (some ⟨b, 0, none⟩)] w (ToldG (.bool true) w) := by
  have t0 := h.get 0
  have hq := ptr_same ⟨b, 0, none⟩
  go_enter Try.func26, Try.ntmps26
  go_wp2
  go_ret
  exact ⟨rfl, grown_refl _ _⟩
theorem made_no (v : Value) (w : World) (h : Nobody v w) : Calls Try.prog 26 #[v] w (ToldG (.bool false) w) := by
  rcases h with rfl | ⟨b, rfl, hb⟩
  · go_enter Try.func26, Try.ntmps26
    go_wp2
    go_ret
    exact ⟨rfl, grown_refl _ _⟩
  · have t0 := hb.get 0
    unfold zeroT at t0
    have hq := ptr_none ⟨b, 0, none⟩
    go_enter Try.func26, Try.ntmps26
    go_wp2
    go_ret
    exact ⟨rfl, grown_refl _ _⟩
theorem enough_any (R n : Nat) (w : World) (hR : R ≤ 40000) (hn : n ≤ 40000) : Calls Try.prog 29 #[.int .i64 (R : Int), .int .i64 (n : Int)] w fun e w' => e = .returned (.bool (decide (3 * n < 2 * R))) ∧ w' = w := by
  have e1 : decide (3 * (n : Int) < 2 * (R : Int)) = decide (3 * n < 2 * R) := by simp only [decide_eq_decide]; omega
  go_enter Try.func29, Try.ntmps29
  go_wp2
  go_ret
  exact ⟨rfl, rfl⟩

/-! ### Len, Room -/
theorem ownLen_any (F : Nat → Prop) (q : Addr) (l : List Lab) (w : World) (h : OTab w F q l) : Calls Try.prog 19 #[.pointer (some q)] w (ToldG (.int .i64 l.length) w) := by
  obtain ⟨b, g, A, c, Z, rfl, ht, _⟩ := h
  have HM := Lib.hid (made_yes b _ _ w ht.1)
  have HB := Lib.hid ht.1
  clear ht
  go_enter Try.func19, Try.ntmps19
  go_wp2_with fail
  refine HM.out.mono ?_
  rintro e w1 ⟨rfl, hg⟩
  have HG := Lib.hid hg
  have t1 := (HB.out.grown hg (by simp)).get 1
  clear hg
  go_wp2_with fail
  go_ret
  exact ⟨rfl, HG.out⟩
theorem ownRoom_any (F : Nat → Prop) (q : Addr) (l : List Lab) (w : World) (h : OTab w F q l) : Calls Try.prog 17 #[.pointer (some q)] w (ToldG (.int .i64 (roomE l.length)) w) := by
  obtain ⟨b, g, A, c, Z, rfl, ht, _⟩ := h
  have HM := Lib.hid (made_yes b _ _ w ht.1)
  have HB := Lib.hid ht.1
  clear ht
  generalize roomE l.length = R at *
  go_enter Try.func17, Try.ntmps17
  go_wp2_with fail
  refine HM.out.mono ?_
  rintro e w1 ⟨rfl, hg⟩
  have HG := Lib.hid hg
  have t1 := (HB.out.grown hg (by simp)).get 2
  clear hg
  go_wp2_with fail
  go_ret
  exact ⟨rfl, HG.out⟩

/-! ### Labels -/
theorem nilL_asked (A : Option Addr) (n c : Nat) (w : World) : (binOp .eql 29 (.slice A n c) (.slice none 0 0)).run Try.prog w = .ok (.bool A.isNone) w :=
  Lib.run_eql_slice_nil w 29 38 A n c 0 0 Try.underlying29
set_option maxRecDepth 100000 in
set_option maxHeartbeats 1000000 in
theorem ownClone_any (A : Option Addr) (c base : Nat) (l : List Lab) (w : World) (h : OwnL w base 38 A l.length c l) (hn : l.length ≤ 1048576) :
    Calls Try.prog 35 #[.slice A l.length c] w (GaveLabs 38 l w) := by
  cases A with
  | none =>
    obtain ⟨h0, rfl⟩ := ownL_none h
    obtain rfl : l = [] := List.eq_nil_of_length_eq_zero h0
    have hq := nilL_asked none 0 0
    clear h
    go_enter Try.func35, Try.ntmps35
    go_wp2
    go_ret
    exact ⟨none, 0, rfl, OwnL.nil _ _ _, grown_refl _ _⟩
  | some a =>
    have hq := nilL_asked (some a) l.length c
    obtain ⟨i0, hi, hz0, hz1, hz2⟩ := info_parts info_lab
    have HO := Lib.hid (show (w.alloc (.cells #[] 38)).ownsRow w.heap.size 38 3 (.slice (some ⟨w.heap.size, 0, none⟩) 0 0) 0 [] from (ownL_empty (Box.fresh w 38 #[]) (Nat.le_refl _)).2)
    have HS := Lib.hid (labs_cells (h.labs.grow (World.grownBy_alloc w (.cells #[] 38) none)))
    have HL := Lib.hid (labV_length l)
    have H1 := Lib.hid (labV_one l)
    clear h
    go_enter Try.func35, Try.ntmps35
    go_wp2_with (at_builtin; refine wpList_append_own _ rfl (.tmp 5) (.tmp 6) _ rfl w.heap.size 38 i0 _ 3 32 Try.underlying29 hi hz0 hz1 hz2 rfl (by omega) _ 0 [] rfl HO.out a l.length c (labV l) rfl HL.out HS.out H1.out (by simp only [maxLen]; omega) (by omega) (by simp) ?_; intro v' w1 hown' hg' _)
    go_ret
    have hg2 : (w.alloc (.cells #[] 38)).grownBy w1 (some w.heap.size) := hg'
    have hgr : w.grownBy w1 none := grown_join (World.grownBy_alloc w _ none) hg2 (.inr fun x hx => by injection hx with hx; omega)
    rw [Nat.zero_add, List.nil_append] at hown'
    obtain ⟨A1, c1, rfl⟩ := own_slice3 hown'
    exact ⟨A1, c1, rfl, ⟨rfl, hown'⟩, hgr⟩
theorem ownLabels_any (F : Nat → Prop) (q : Addr) (l : List Lab) (w : World) (h : OTab w F q l) : Calls Try.prog 24 #[.pointer (some q)] w (GaveLabs 38 l w) := by
  obtain ⟨b, g, A, c, Z, rfl, ht, hgd, _⟩ := h
  have HM := Lib.hid (made_yes b _ _ w ht.1)
  have HB := Lib.hid ht.1
  have HC := Lib.hid (fun w' (hg : w.grownBy w' none) => ownClone_any A c 0 l w' (ht.2.1.grow hg) (by have := hgd.2; omega))
  clear ht hgd
  go_enter Try.func24, Try.ntmps24
  go_wp2_with fail
  refine HM.out.mono ?_
  rintro e w1 ⟨rfl, hg⟩
  have HG := Lib.hid hg
  have HC1 := Lib.hid (HC.out _ hg)
  have t1 := (HB.out.grown hg (by simp)).get 1
  clear hg
  go_wp2_with fail
  refine HC1.out.mono ?_
  rintro e w2 ⟨A2, c2, rfl, ho2, hg2⟩
  have HO2 := Lib.hid ho2
  have HG2 := Lib.hid (grown_join HG.out hg2 (.inr (by simp)))
  clear ho2 hg2
  go_wp2_with fail
  go_ret
  exact ⟨A2, c2, rfl, HO2.out.lower HG.out.size, HG2.out⟩

/-! ### nobody's table -/
theorem noLen (v : Value) (w : World) (h : Nobody v w) : Calls Try.prog 19 #[v] w (ToldG (.int .i64 0) w) := by
  have HM := Lib.hid (made_no v w h)
  clear h
  go_enter Try.func19, Try.ntmps19
  go_wp2_with fail
  refine HM.out.mono ?_
  rintro e w1 ⟨rfl, hg⟩
  have HG := Lib.hid hg
  clear hg
  go_wp2_with fail
  go_ret
  exact ⟨rfl, HG.out⟩
theorem noRoom (v : Value) (w : World) (h : Nobody v w) : Calls Try.prog 17 #[v] w (ToldG (.int .i64 0) w) := by
  have HM := Lib.hid (made_no v w h)
  clear h
  go_enter Try.func17, Try.ntmps17
  go_wp2_with fail
  refine HM.out.mono ?_
  rintro e w1 ⟨rfl, hg⟩
  have HG := Lib.hid hg
  clear hg
  go_wp2_with fail
  go_ret
  exact ⟨rfl, HG.out⟩
theorem noLongest (v : Value) (w : World) (h : Nobody v w) : Calls Try.prog 20 #[v] w (ToldG (.int .i64 0) w) := by
  have HM := Lib.hid (made_no v w h)
  clear h
  go_enter Try.func20, Try.ntmps20
  go_wp2_with fail
  refine HM.out.mono ?_
  rintro e w1 ⟨rfl, hg⟩
  have HG := Lib.hid hg
  clear hg
  go_wp2_with fail
  go_ret
  exact ⟨rfl, HG.out⟩
theorem noLabels (v : Value) (w : World) (h : Nobody v w) : Calls Try.prog 24 #[v] w (GaveNone w) := by
  have HM := Lib.hid (made_no v w h)
  clear h
  go_enter Try.func24, Try.ntmps24
  go_wp2_with fail
  refine HM.out.mono ?_
  rintro e w1 ⟨rfl, hg⟩
  have HG := Lib.hid hg
  clear hg
  go_wp2_with fail
  go_ret
  exact ⟨none, 0, rfl, HG.out⟩
theorem noAdd (v : Value) (a : Lab) (w : World) (h : Nobody v w) : Calls Try.prog 15 #[v, labO a] w (ToldG (.tuple #[.int .i64 0, .int .i64 1]) w) := by
  obtain ⟨ak, an, as'⟩ := a
  have HM := Lib.hid (fun w' hg => made_no v w' (h.grow (w' := w') hg))
  clear h
  show Calls Try.prog 15 #[v, .agg #[.int .u8 ak, .int .i64 an, .string as']] w _
  go_enter Try.func15, Try.ntmps15
  go_wp2_with fail
  refine (HM.out _ (World.grownBy_alloc _ _ _)).mono ?_
  rintro e w1 ⟨rfl, hg⟩
  have HG := Lib.hid (grown_join (World.grownBy_alloc _ _ none) hg (.inr (by simp)))
  clear hg
  go_wp2_with fail
  go_ret2
  exact ⟨rfl, HG.out⟩
end Go.Proofs.Ytfemfkiamipipaa
