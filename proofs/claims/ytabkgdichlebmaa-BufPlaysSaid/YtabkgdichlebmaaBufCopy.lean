/-
  buf.Copy: contract.
-/
import Derived.Test.YtabkgdichlebmaaBufLay
import Derived.Laws.CopyOwn
namespace Go.Proofs.Ytabkgdichlebmaa
open Go.ChangeShapes Go.WideShapes Go.ChangeAt Go.RowKit
set_option linter.unusedVariables false

/-- l with n cells of m from f on put from at on. -/
def layC (l : List Cel) (at_ : Nat) (m : List Cel) (f n : Nat) : List Cel := ctab l.length fun i => if at_ ≤ i ∧ i < at_ + n then m.getD (f + (i - at_)) noCel else l.getD i noCel
theorem layC_length (l : List Cel) (at_ : Nat) (m : List Cel) (f n : Nat) : (layC l at_ m f n).length = l.length := ctab_length _ _
theorem layC_get (l : List Cel) (at_ : Nat) (m : List Cel) (f n i : Nat) (h : i < l.length) : (layC l at_ m f n).getD i noCel = if at_ ≤ i ∧ i < at_ + n then m.getD (f + (i - at_)) noCel else l.getD i noCel := ctab_get _ _ _ h
theorem oks_layC (l : List Cel) (at_ : Nat) (m : List Cel) (f n : Nat) : oks (layC l at_ m f n) = layB (oks l) at_ (oks m) f 0 n := by
  refine list_eq (by rw [layB_length, oks_length, oks_length, layC_length]) fun i hi => ?_
  rw [oks_length, layC_length] at hi
  rw [oks_get, layC_get _ _ _ _ _ _ hi, layB_get _ _ _ _ _ _ _ (by rw [oks_length]; exact hi), oks_get, oks_get]
  rw [Nat.add_zero]
  split <;> rfl
theorem numL_layC (l : List Cel) (at_ : Nat) (m : List Cel) (f n i : Nat) (h : i < l.length) : numL (layC l at_ m f n) i = if at_ ≤ i ∧ i < at_ + n then numL m (f + (i - at_)) else numL l i := by
  unfold numL
  rw [layC_get _ _ _ _ _ _ h]
  split <;> rfl
theorem numsV_congr {l l' : List Cel} (hl : l'.length = l.length) (h : ∀ i, i < l.length → numL l' i = numL l i) : numsV l' = numsV l := by
  apply List.ext_getElem?
  intro i
  by_cases hi : i < l.length
  · rw [numsV_get l' i (by omega), numsV_get l i hi, h i hi]
  · rw [List.getElem?_eq_none (by rw [numsV_length]; omega), List.getElem?_eq_none (by rw [numsV_length]; omega)]
section
variable {w : World} {lo hi g c : Nat} {mp A : Option Addr} {M : List Bool} {l l' : List Cel}
theorem BufM.same_nums (h : BufM w lo hi g mp A c M l) (hl : l'.length = l.length) (hn : ∀ i, i < l.length → numL l' i = numL l i) : BufM w lo hi g mp A c M l' := by
  obtain ⟨h1, h2, h3, h4, h5, h6, h7, h8⟩ := h
  exact ⟨h1, h2, h3, by rw [hl]; exact h4, by rw [hl]; exact h5, h6, by rw [hl, numsV_congr hl hn]; exact h7, h8⟩
/-- numbers are put one behind the other. -/
theorem BufM.puts {r : Nat} : ∀ (vs : List Int) (o : Nat) (w : World) (l l' : List Cel), BufM w lo hi g mp (some ⟨r, 0, none⟩) c M l → o + vs.length ≤ l.length → l'.length = l.length →
    (∀ i, i < l.length → numL l' i = if o ≤ i ∧ i < o + vs.length then vs.getD (i - o) 0 else numL l i) →
    BufM (w.setCells r o (vs.map (Value.int .i64))) lo hi g mp (some ⟨r, 0, none⟩) c M l' ∧ Turn lo hi w (w.setCells r o (vs.map (Value.int .i64)))
  | [], o, w, l, l', h, ho, hl, hn => ⟨h.same_nums hl fun i hi' => by rw [hn i hi', if_neg (by simp)], Turn.refl _ _ _⟩
  | v :: vs, o, w, l, l', h, ho, hl, hn => by
    simp only [List.length_cons] at ho
    have hr := (h.at_ (i := o) (by omega))
    obtain ⟨r', e, hr1, hr2, _, _⟩ := hr
    obtain rfl : r = r' := by injection e with e; injection e
    have h1 := h.put (l' := fillC l o (o + 1) ⟨v, true⟩) (i := o) (fillC_length _ _ _ _) (by omega) (fun j hj hne => by rw [numL_fillC _ _ _ _ _ hj, if_neg (by omega)]) v (by rw [numL_fillC _ _ _ _ _ (by omega), if_pos (by omega)]; rfl)
    have h2 := BufM.puts vs (o + 1) _ _ l' h1 (by rw [fillC_length]; omega) (by rw [fillC_length]; exact hl) (fun i hi' => by
      rw [fillC_length] at hi'
      rw [hn i hi', numL_fillC _ _ _ _ _ hi', List.length_cons]
      by_cases e1 : i = o
      · subst e1
        rw [if_pos (by omega), if_neg (by omega), if_pos (by omega)]
        simp [Cel.norm]
      · by_cases e2 : o + 1 ≤ i ∧ i < o + 1 + vs.length
        · rw [if_pos (by omega), if_pos e2]
          obtain ⟨k, hk⟩ : ∃ k, i - o = k + 1 := ⟨i - o - 1, by omega⟩
          rw [hk, show i - (o + 1) = k by omega]
          rfl
        · rw [if_neg (by omega), if_neg e2, if_neg (by omega)])
    refine ⟨h2.1, Turn.trans ?_ h2.2⟩
    exact Turn.of_row (r := some r) (grown_put (grown_refl w _) (.inl rfl) _) (fun x hx => by injection hx with hx; omega)
end
/-- copy of n numbers of m from f on into a Buf's row, from at on. -/
theorem run_copy_buf {w : World} {lo hi g c : Nat} {mp A A' : Option Addr} {M : List Bool} {l m : List Cel} {B : Nat} (h : BufM w lo hi g mp A c M l) (h' : Sees w B A' m.length fun j => .int .i64 (numL m j)) (at_ f n dCap sCap : Nat) (h1 : at_ + n ≤ l.length) (h2 : f + n ≤ m.length)
    (dp sp : Option Addr) (hdp : 0 < n → dp = A.map (·.add at_) ∧ sp = A'.map (·.add f)) (ty : TypeId) :
    ∃ w', (Builtin.copy_ #[63, 63] ty #[.slice dp n dCap, .slice sp n sCap]).run Try.prog w = .ok (goInt n) w' ∧ BufM w' lo hi g mp A c M (layC l at_ m f n) ∧ Turn lo hi w w' := by
  have hsz : (Try.prog.info? 2).map (·.size) = some 1 := by kernel_rfl
  rcases Nat.eq_zero_or_pos n with h0 | h0
  · subst h0
    refine ⟨w, run_copy_none w _ _ ty 2 dp sp 0 dCap 0 sCap Try.underlying63 hsz rfl, h.same_nums (layC_length _ _ _ _ _) fun i hi' => ?_, Turn.refl _ _ _⟩
    rw [numL_layC _ _ _ _ _ _ hi', if_neg (by omega)]
  · obtain ⟨r, rfl, _, _, _, _⟩ := h.at_ (i := at_) (by omega)
    obtain ⟨b, off, rfl, _, hc⟩ := h' (by omega)
    obtain ⟨rfl, rfl⟩ := hdp h0
    have hlen : ((List.range n).map fun j => numL m (f + j)).length = n := by simp
    have hp := BufM.puts ((List.range n).map fun j => numL m (f + j)) at_ w l (layC l at_ m f n) h (by rw [hlen]; exact h1) (layC_length _ _ _ _ _) (fun i hi' => by
      rw [numL_layC _ _ _ _ _ _ hi', hlen]
      by_cases e : at_ ≤ i ∧ i < at_ + n
      · rw [if_pos e, if_pos e]
        have : i - at_ < n := by omega
        simp [List.getD, this]
      · rw [if_neg e, if_neg e])
    have hrun := run_copy_cells (P := Try.prog) w 63 63 ty 2 r at_ n dCap ⟨b, off + f, none⟩ n sCap (((List.range n).map fun j => numL m (f + j)).map (Value.int .i64)) Try.underlying63 hsz (by simp) (fun j v hv => ?_) (fun j hj => ?_) (fun j hj => ?_) (fun v hv => ?_)
    · refine ⟨_, ?_, hp.1, hp.2⟩
      have e : (((List.range n).map fun j => numL m (f + j)).map (Value.int .i64)).length = n := by simp
      rw [e] at hrun
      simp only [Option.map_some, Addr.add_lit, Nat.zero_add]
      exact hrun
    · have hj : j < n := by
        have := (List.getElem?_eq_some_iff.1 hv).1
        simpa using this
      have hv' : v = .int .i64 (numL m (f + j)) := by
        simp [hj] at hv
        exact hv.symm
      subst hv'
      rw [Addr.add_lit, Nat.add_assoc]
      exact hc (f + j) (by omega)
    · have hj : j < n := by simpa using hj
      obtain ⟨r', e, _, _, hcell, _⟩ := h.at_ (i := at_ + j) (by omega)
      injection e with e; injection e with e
      subst e
      rw [hcell]; rfl
    · have hj : j < n := by simpa using hj
      obtain ⟨r', e, _, _, _, hfz⟩ := h.at_ (i := at_ + j) (by omega)
      injection e with e; injection e with e
      subst e
      exact hfz
    · rw [List.mem_map] at hv
      obtain ⟨z, _, rfl⟩ := hv
      rfl
theorem step_copy_buf {ops : Array Oper} {o : Oper} {a : Act} {w : World} {K : Act → World → Prop} {Q : Exit → Act → World → Prop} {E : Prop} {lo hi g c : Nat} {mp A A' : Option Addr} {M : List Bool} {l m : List Cel} {B : Nat} (hgd : o.guard = none) (d s : Operand)
    (ho : o.op = .call { callee := .builtin .copy, args := #[d, s], argTypes := #[63, 63] }) (h : BufM w lo hi g mp A c M l) (h' : Sees w B A' m.length fun j => .int .i64 (numL m j)) (at_ f n dCap sCap : Nat) (h1 : at_ + n ≤ l.length) (h2 : f + n ≤ m.length)
    (dp sp : Option Addr) (hd : a.eval d = .slice dp n dCap) (hs : a.eval s = .slice sp n sCap) (hdp : 0 < n → dp = A.map (·.add at_) ∧ sp = A'.map (·.add f))
    (hK : ∀ w', BufM w' lo hi g mp A c M (layC l at_ m f n) → Turn lo hi w w' → K (a.put o.dst (goInt n)) w') :
    if Region.wanted o (yielded ops a.tmps) = true then Oper.wp Try.prog o a w K Q else E := by
  have hw : Region.wanted o (yielded ops a.tmps) = true := by simp [Region.wanted, hgd]
  rw [if_pos hw]
  obtain ⟨w', hrun, hb, ht⟩ := run_copy_buf h h' at_ f n dCap sCap h1 h2 dp sp hdp o.type
  unfold Oper.wp
  simp [execOp, ho, resolve, invoke, builtin, hd, hs, hrun, Result.andThen]
  exact hK w' hb ht

/-- the other Buf is the same one, or lies apart. -/
def Beside (w : World) (lo hi g : Nat) (mp A : Option Addr) (c : Nat) (l : List Cel) (lo' hi' g' : Nat) (mp' A' : Option Addr) (c' : Nat) (m : List Cel) : Prop :=
  (g' = g ∧ mp' = mp ∧ A' = A ∧ c' = c ∧ m = l) ∨ (BufG w lo' hi' g' mp' A' c' m ∧ (hi ≤ lo' ∨ hi' ≤ lo))
theorem layB_src_up (M : List Bool) (at_ f x : Nat) (h : at_ ≤ f) : (layB M at_ M f 0 x).getD (f + x) false = M.getD (f + x) false := by
  by_cases hl : f + x < M.length
  · rw [layB_get _ _ _ _ _ _ _ hl, if_neg (by omega)]
  · rw [List.getD, List.getD, List.getElem?_eq_none (by rw [layB_length]; omega), List.getElem?_eq_none (by omega)]
theorem layB_src_down (M : List Bool) (at_ f k n : Nat) (h : f < at_) : (layB M at_ M f (k + 1) n).getD (f + k) false = M.getD (f + k) false := by
  by_cases hl : f + k < M.length
  · rw [layB_get _ _ _ _ _ _ _ hl, if_neg (by omega)]
  · rw [List.getD, List.getD, List.getElem?_eq_none (by rw [layB_length]; omega), List.getElem?_eq_none (by omega)]
theorem lay_any (w : World) (lo hi g : Nat) (mp A : Option Addr) (c : Nat) (l : List Cel) (lo' hi' g' : Nat) (mp' A' : Option Addr) (c' : Nat) (m : List Cel) (h : BufG w lo hi g mp A c l) (hs : Beside w lo hi g mp A c l lo' hi' g' mp' A' c' m)
    (at_ f n : Nat) (h1 : at_ + n ≤ l.length) (h2 : f + n ≤ m.length) (h3 : m.length ≤ 1048576) :
    Calls Try.prog 31 #[.agg #[.pointer mp], .int .i64 at_, .agg #[.pointer mp'], .int .i64 f, .int .i64 n] w (Laid w lo hi g mp A c (layB (oks l) at_ (oks m) f 0 n) l) := by
  have hsm := h.small
  rcases hs with ⟨rfl, rfl, rfl, rfl, rfl⟩ | ⟨hm, hap⟩
  · rcases Nat.lt_or_ge f at_ with hlt | hge
    · exact lay_down w lo hi g' mp' A' mp' c' (oks m) m (fun M => M) lo h (fun w' M' hb _ => hb.mask.p) at_ f n (by rw [oks_length]; exact h1) hlt (by omega) (by rw [oks_length]; exact hsm) (fun k hk => layB_src_down _ _ _ _ _ hlt)
    · exact lay_up w lo hi g' mp' A' mp' c' (oks m) m (fun M => M) lo h (fun w' M' hb _ => hb.mask.p) at_ f n (by rw [oks_length]; exact h1) hge (by omega) (by rw [oks_length]; exact hsm) (fun k hk => layB_src_up _ _ _ _ hge)
  · rcases Nat.lt_or_ge f at_ with hlt | hge
    · exact lay_down w lo hi g mp A mp' c (oks l) l (fun _ => oks m) lo' h (fun w' M' hb ht => (hm.turned ht (by omega)).mask.p) at_ f n (by rw [oks_length]; exact h1) hlt (by omega) (by rw [oks_length]; exact hsm) (fun _ _ => rfl)
    · exact lay_up w lo hi g mp A mp' c (oks l) l (fun _ => oks m) lo' h (fun w' M' hb ht => (hm.turned ht (by omega)).mask.p) at_ f n (by rw [oks_length]; exact h1) hge (by omega) (by rw [oks_length]; exact hsm) (fun _ _ => rfl)
/-- the other Buf's row and cells, wherever it lies, when the first one's marks have turned. -/
theorem beside_sees {w w' : World} {lo hi g lo' hi' g' c c' : Nat} {mp A mp' A' : Option Addr} {l m : List Cel} {M : List Bool} (hs : Beside w lo hi g mp A c l lo' hi' g' mp' A' c' m) (hb : BufM w' lo hi g mp A c M l) (ht : Turn lo hi w w') :
    (Sees w' w'.heap.size A' m.length fun j => .int .i64 (numL m j)) ∧ w'.cell? ⟨g', 1, none⟩ = some (.slice A' m.length c') ∧ m.length ≤ c' ∧ w'.cell? ⟨g', 0, none⟩ = some (.pointer mp') := by
  have base : ∀ {lo hi g c : Nat} {mp A : Option Addr} {M : List Bool} {l : List Cel}, BufM w' lo hi g mp A c M l → (Sees w' w'.heap.size A l.length fun j => .int .i64 (numL l j)) ∧ w'.cell? ⟨g, 1, none⟩ = some (.slice A l.length c) ∧ l.length ≤ c ∧ w'.cell? ⟨g, 0, none⟩ = some (.pointer mp) := fun {lo hi g c mp A M l} hb => by
    refine ⟨fun h0 => ?_, hb.nums_cell, ?_, hb.mask_cell⟩
    · obtain ⟨r, rfl, _, hl, _, _⟩ := own_form hb.own h0
      refine ⟨r, 0, rfl, hl, fun j hj => ?_⟩
      rw [Nat.zero_add, hb.own.cellAt j (by omega)]
      exact numsV_get _ j hj
    · rcases hb.own.2 with ⟨_, e⟩ | ⟨k, cap, cur, e, _, _, hc, _⟩
      · omega
      · injection e with _ _ e
        omega
  rcases hs with ⟨rfl, rfl, rfl, rfl, rfl⟩ | ⟨hm, hap⟩
  · exact base hb
  · exact base (hm.turned ht (by omega))
theorem beside_kept {w w' : World} {lo hi g lo' hi' g' c c' : Nat} {mp A mp' A' : Option Addr} {l l' m : List Cel} {M : List Bool} (hs : Beside w lo hi g mp A c l lo' hi' g' mp' A' c' m) (hb : BufM w' lo hi g mp A c M l') (hl : l'.length = l.length) (ht : Turn lo hi w w') :
    w'.cell? ⟨g, 1, none⟩ = some (.slice A l.length c) ∧ w'.cell? ⟨g', 1, none⟩ = some (.slice A' m.length c') := by
  rw [← hl]
  refine ⟨hb.nums_cell, ?_⟩
  rcases hs with ⟨rfl, rfl, rfl, rfl, rfl⟩ | ⟨hm, hap⟩
  · rw [← hl]; exact hb.nums_cell
  · exact (hm.turned ht (by omega)).nums_cell
def Copied (w2 : World) (lo hi g : Nat) (mp A : Option Addr) (c : Nat) (l : List Cel) (e : Ending) (w' : World) : Prop :=
  e = .returned (.bool true) ∧ BufG w' lo hi g mp A c l ∧ Turn lo hi w2 w'
theorem copy_at0 (r k : Nat) : some (⟨r, k, none⟩ : Addr) = (some (⟨r, 0, none⟩ : Addr)).map (·.add k) := by rw [Option.map_some, Addr.add_lit, Nat.zero_add]
theorem copy_at1 (r o k : Nat) : some (⟨r, o + k, none⟩ : Addr) = (some (⟨r, o, none⟩ : Addr)).map (·.add k) := by rw [Option.map_some, Addr.add_lit]
theorem copied_end {w2 w4 w5 w6 : World} {lo hi g c n n' : Nat} {mp A : Option Addr} {l m : List Cel} {at_ f k : Nat} (hg : w2.grownBy w4 none) (h5 : Turn lo hi (w4.drewN k) w5) (h6 : Turn lo hi (w5.drewN n) w6) (hb : BufM w6 lo hi g mp A c (layB (oks l) at_ (oks m) f 0 n') (layC l at_ m f n')) :
    Copied w2 lo hi g mp A c (layC l at_ m f n') (.returned (.bool true)) w6 := by
  refine ⟨rfl, ?_, Turn.grown' hg (Turn.trans h5 h6)⟩
  show BufM _ _ _ _ _ _ _ _ _
  rw [oks_layC]
  exact hb
set_option maxHeartbeats 2000000 in
theorem copy_core (p q : Option Addr) (w w1 w2 : World) (lo hi g : Nat) (mp A : Option Addr) (c : Nat) (l : List Cel) (lo' hi' g' : Nat) (mp' A' : Option Addr) (c' : Nat) (m : List Cel)
    (hp : Calls Try.prog 29 #[.pointer p] w fun e w' => e = .returned (.pointer (some ⟨g, 0, none⟩)) ∧ w' = w1)
    (hq : Calls Try.prog 29 #[.pointer q] w1 fun e w' => e = .returned (.pointer (some ⟨g', 0, none⟩)) ∧ w' = w2)
    (h : BufG w2 lo hi g mp A c l) (hs : Beside w2 lo hi g mp A c l lo' hi' g' mp' A' c' m) (hm : ∃ lo hi, BufG w2 lo hi g' mp' A' c' m)
    (at_ f n : Nat) (h1 : at_ + n ≤ l.length) (h2 : f + n ≤ m.length) :
    Calls Try.prog 13 #[.pointer p, .int .i64 at_, .pointer q, .int .i64 f, .int .i64 n] w (Copied w2 lo hi g mp A c (layC l at_ m f n)) := by
  obtain ⟨lo2, hi2, hm⟩ := hm
  have HP := Lib.hid hp
  have HQ := Lib.hid hq
  have H := Lib.hid h
  have HS := Lib.hid hs
  have HM := Lib.hid hm
  have hl1 := h.small
  have hl2 := hm.small
  have HN1 := Lib.hid (show hasN l.length (at_ : Int) (n : Int) = true from decide_eq_true (by omega))
  have HN2 := Lib.hid (show hasN m.length (f : Int) (n : Int) = true from decide_eq_true (by omega))
  clear hp hq h hs hm
  go_enter Try.func13, Try.ntmps13
  go_wp2_with fail
  refine HP.out.mono ?_
  rintro e wx ⟨rfl, hww⟩
  subst hww
  go_wp2_with fail
  refine HQ.out.mono ?_
  rintro e wy ⟨rfl, hww⟩
  subst hww
  go_wp2_with fail
  refine (bufhas_any _ l at_ n ⟨by omega, by omega⟩ ⟨by omega, by omega⟩ lo hi _ H.out.p).mono ?_
  rw [HN1.out]
  rintro e w3 ⟨rfl, hg3⟩
  have HG3 := Lib.hid hg3
  clear hg3
  go_wp2_with fail
  refine (bufhas_any _ m f n ⟨by omega, by omega⟩ ⟨by omega, by omega⟩ lo2 hi2 _ (HM.out.grow HG3.out).p).mono ?_
  rw [HN2.out]
  rintro e w4 ⟨rfl, hg4⟩
  have HG4 := Lib.hid (grown_join HG3.out hg4 (.inr (by simp)))
  have hb4 := H.out.grow HG4.out
  have hm4 := HM.out.grow HG4.out
  have a0 := hb4.mask_cell
  have b0 := hm4.mask_cell
  have HB4 := Lib.hid hb4
  have HS4 : Hid (Beside w4 lo hi g mp A c l lo' hi' g' mp' A' c' m) := Lib.hid (by
    rcases HS.out with h | ⟨h, k⟩
    · exact .inl h
    · exact .inr ⟨h.grow HG4.out, k⟩)
  clear hg4 hb4 hm4
  go_wp2_with fail
  go_region_held3 (fun w' => w'.cell? ⟨g, 0, none⟩ = some (.pointer mp) ∧ w'.cell? ⟨g', 0, none⟩ = some (.pointer mp')) (first | go_keep | exact KEEP.out) (first
    | (go_at_call 31; refine (lay_any _ lo hi g mp A c l lo' hi' g' mp' A' c' m (HB4.out.drewN _) HS4.out at_ f n h1 h2 hl2).mono ?_; rintro e w5 ⟨rfl, hb5, ht5⟩; have HSE := Lib.hid (beside_sees HS4.out (w' := w5) hb5 ht5); have KEEP := Lib.hid (And.intro hb5.mask_cell HSE.out.2.2.2); have HB5 := Lib.hid hb5; have HT5 := Lib.hid ht5; clear hb5 ht5))
  all_goals go_wp2_with fail
  all_goals
    have e0 := HB5.out.nums_cell
    have f0 := HSE.out.2.1
    have hcap := HSE.out.2.2.1
    have hcap1 : l.length ≤ c := by
      rcases HB5.out.own.2 with ⟨_, e⟩ | ⟨k, cap, cur, e, _, _, hc, _⟩
      · omega
      · injection e with _ _ e
        omega
    have w1 : IntKind.i64.wrap ((at_ : Int) + (n : Int)) = (at_ : Int) + (n : Int) := IntWalk.i64_in _ (by omega)
    have w2 : IntKind.i64.wrap ((f : Int) + (n : Int)) = (f : Int) + (n : Int) := IntWalk.i64_in _ (by omega)
    have l1 : (0 : Int) ≤ (at_ : Int) := by omega
    have l2 : (at_ : Int) ≤ (at_ : Int) + (n : Int) := by omega
    have l3 : (at_ : Int) + (n : Int) ≤ (c : Int) := by omega
    have l4 : (0 : Int) ≤ (f : Int) := by omega
    have l5 : (f : Int) ≤ (f : Int) + (n : Int) := by omega
    have l6 : (f : Int) + (n : Int) ≤ (c' : Int) := by omega
    have l7 : ((at_ : Int) + (n : Int)).toNat = at_ + n := by omega
    have l8 : ((f : Int) + (n : Int)).toNat = f + n := by omega
    rcases Nat.eq_zero_or_pos n with hn0 | hn0
    · have HN0 := Lib.hid hn0
      clear hn0
      by_cases hq1 : c = at_
      · subst hq1
        by_cases hq2 : c' = f
        · subst hq2
          go_region_held3 (fun w' => w'.cell? ⟨g, 1, none⟩ = some (.slice A l.length c) ∧ w'.cell? ⟨g', 1, none⟩ = some (.slice A' m.length c')) (first | go_keep | exact KEEP3.out) (first
            | (refine step_copy_buf rfl (.tmp 47) (.tmp 56) rfl (HB5.out.drewN _) HSE.out.1 c c' n _ _ h1 h2 _ _ rfl rfl (fun h => by have := HN0.out; omega) ?_; intro w6 hb6 ht6; have KEEP3 := Lib.hid (beside_kept HS4.out (w' := w6) hb6 (layC_length _ _ _ _ _) (HT5.out.trans ht6)); have HB6 := Lib.hid hb6; have HT6 := Lib.hid ht6; clear hb6 ht6))
          all_goals go_wp2
          all_goals go_ret
          all_goals exact copied_end HG4.out HT5.out HT6.out HB6.out
        · skip
          go_region_held3 (fun w' => w'.cell? ⟨g, 1, none⟩ = some (.slice A l.length c) ∧ w'.cell? ⟨g', 1, none⟩ = some (.slice A' m.length c')) (first | go_keep | exact KEEP3.out) (first
            | (refine step_copy_buf rfl (.tmp 47) (.tmp 56) rfl (HB5.out.drewN _) HSE.out.1 c f n _ _ h1 h2 _ _ rfl rfl (fun h => by have := HN0.out; omega) ?_; intro w6 hb6 ht6; have KEEP3 := Lib.hid (beside_kept HS4.out (w' := w6) hb6 (layC_length _ _ _ _ _) (HT5.out.trans ht6)); have HB6 := Lib.hid hb6; have HT6 := Lib.hid ht6; clear hb6 ht6))
          all_goals go_wp2
          all_goals go_ret
          all_goals exact copied_end HG4.out HT5.out HT6.out HB6.out
      · by_cases hq2 : c' = f
        · subst hq2
          go_region_held3 (fun w' => w'.cell? ⟨g, 1, none⟩ = some (.slice A l.length c) ∧ w'.cell? ⟨g', 1, none⟩ = some (.slice A' m.length c')) (first | go_keep | exact KEEP3.out) (first
            | (refine step_copy_buf rfl (.tmp 47) (.tmp 56) rfl (HB5.out.drewN _) HSE.out.1 at_ c' n _ _ h1 h2 _ _ rfl rfl (fun h => by have := HN0.out; omega) ?_; intro w6 hb6 ht6; have KEEP3 := Lib.hid (beside_kept HS4.out (w' := w6) hb6 (layC_length _ _ _ _ _) (HT5.out.trans ht6)); have HB6 := Lib.hid hb6; have HT6 := Lib.hid ht6; clear hb6 ht6))
          all_goals go_wp2
          all_goals go_ret
          all_goals exact copied_end HG4.out HT5.out HT6.out HB6.out
        · skip
          go_region_held3 (fun w' => w'.cell? ⟨g, 1, none⟩ = some (.slice A l.length c) ∧ w'.cell? ⟨g', 1, none⟩ = some (.slice A' m.length c')) (first | go_keep | exact KEEP3.out) (first
            | (refine step_copy_buf rfl (.tmp 47) (.tmp 56) rfl (HB5.out.drewN _) HSE.out.1 at_ f n _ _ h1 h2 _ _ rfl rfl (fun h => by have := HN0.out; omega) ?_; intro w6 hb6 ht6; have KEEP3 := Lib.hid (beside_kept HS4.out (w' := w6) hb6 (layC_length _ _ _ _ _) (HT5.out.trans ht6)); have HB6 := Lib.hid hb6; have HT6 := Lib.hid ht6; clear hb6 ht6))
          all_goals go_wp2
          all_goals go_ret
          all_goals exact copied_end HG4.out HT5.out HT6.out HB6.out
    · have q1 : ¬ c = at_ := by omega
      have q2 : ¬ c' = f := by omega
      obtain ⟨r, rfl, _, _, _, _⟩ := HB5.out.at_ (i := at_) (by omega)
      obtain ⟨b', off', rfl, _, _⟩ := HSE.out.1 (by omega)
      have HN0 := Lib.hid hn0
      clear hn0
      go_region_held3 (fun w' => w'.cell? ⟨g, 1, none⟩ = some (.slice (some ⟨r, 0, none⟩) l.length c) ∧ w'.cell? ⟨g', 1, none⟩ = some (.slice (some ⟨b', off', none⟩) m.length c')) (first | go_keep | exact KEEP3.out) (first
        | (refine step_copy_buf rfl (.tmp 47) (.tmp 56) rfl (HB5.out.drewN _) HSE.out.1 at_ f n _ _ h1 h2 _ _ rfl rfl (fun h => ⟨copy_at0 _ _, copy_at1 _ _ _⟩) ?_; intro w6 hb6 ht6; have KEEP3 := Lib.hid (beside_kept HS4.out (w' := w6) hb6 (layC_length _ _ _ _ _) (HT5.out.trans ht6)); have HB6 := Lib.hid hb6; have HT6 := Lib.hid ht6; clear hb6 ht6))
      all_goals go_wp2
      all_goals go_ret
      all_goals exact copied_end HG4.out HT5.out HT6.out HB6.out

/-! ### Copy, of whatever Bufs -/
def copyB (l : List Cel) (at_ : Int) (m : List Cel) (f n : Int) : Bool := hasN l.length at_ n && hasN m.length f n
theorem bufCopy_no (p q : Option Addr) (w : World) (lo hi lo' hi' : Nat) (l m : List Cel) (h : BufP w lo hi p l) (h' : BufP w lo' hi' q m) (at_ f n : Int) (ha : I64 at_) (hf : I64 f) (hn : I64 n) (hb : copyB l at_ m f n = false) :
    Calls Try.prog 13 #[.pointer p, .int .i64 at_, .pointer q, .int .i64 f, .int .i64 n] w (Gave (.bool false) w) := by
  have H := Lib.hid h
  have H' := Lib.hid h'
  have HA := Lib.hid ha
  have HF := Lib.hid hf
  have HN := Lib.hid hn
  clear h h' ha hf hn
  go_enter Try.func13, Try.ntmps13
  go_wp2_with fail
  refine (some_any p l lo hi w H.out).mono ?_
  rintro e w1 ⟨g, _, _, mp, A, c, rfl, hb1, hg1, _⟩
  have HB1 := Lib.hid hb1
  have HG1 := Lib.hid hg1
  clear hb1 hg1
  go_wp2_with fail
  refine (some_any q m lo' hi' _ (H'.out.grow HG1.out)).mono ?_
  rintro e w2 ⟨g', _, _, mp', A', c', rfl, hb2, hg2, _⟩
  have HB2 := Lib.hid hb2
  have HB1' := Lib.hid (HB1.out.grow hg2)
  have HG2 := Lib.hid (grown_join HG1.out hg2 (.inr (by simp)))
  clear hb2 hg2
  go_wp2_with fail
  refine (bufhas_any _ l at_ n HA.out HN.out _ _ _ HB1'.out.p).mono ?_
  cases hq : hasN l.length at_ n
  · rintro e w3 ⟨rfl, hg3⟩
    have HG3 := Lib.hid (grown_join HG2.out hg3 (.inr (by simp)))
    clear hg3 hq hb
    go_wp2_with fail
    go_ret
    exact ⟨rfl, HG3.out⟩
  · have hr : hasN m.length f n = false := by
      unfold copyB at hb
      rw [hq, Bool.true_and] at hb
      exact hb
    have HR := Lib.hid hr
    rintro e w3 ⟨rfl, hg3⟩
    have HG3 := Lib.hid (grown_join HG2.out hg3 (.inr (by simp)))
    have HB3 := Lib.hid (HB2.out.grow hg3)
    clear hg3 hq hb hr
    go_wp2_with fail
    refine (bufhas_any _ m f n HF.out HN.out _ _ _ HB3.out.p).mono ?_
    rw [HR.out]
    rintro e w4 ⟨rfl, hg4⟩
    have HG4 := Lib.hid (grown_join HG3.out hg4 (.inr (by simp)))
    clear hg4
    go_wp2_with fail
    go_ret
    exact ⟨rfl, HG4.out⟩
/-- a Buf's own cells are copied within it. -/
theorem bufCopy_self (w : World) (lo hi g : Nat) (mp A : Option Addr) (c : Nat) (l : List Cel) (h : BufG w lo hi g mp A c l) (at_ f n : Nat) (h1 : at_ + n ≤ l.length) (h2 : f + n ≤ l.length) :
    Calls Try.prog 13 #[.pointer (some ⟨g, 0, none⟩), .int .i64 at_, .pointer (some ⟨g, 0, none⟩), .int .i64 f, .int .i64 n] w (Copied w lo hi g mp A c (layC l at_ l f n)) :=
  copy_core _ _ w w w lo hi g mp A c l lo hi g mp A c l (some_ptr _ w) (some_ptr _ w) h (.inl ⟨rfl, rfl, rfl, rfl, rfl⟩) ⟨lo, hi, h⟩ at_ f n h1 h2
/-- cells of another one, that lies apart. -/
theorem bufCopy_other (w : World) (lo hi g : Nat) (mp A : Option Addr) (c : Nat) (l : List Cel) (lo' hi' : Nat) (q : Option Addr) (m : List Cel) (h : BufG w lo hi g mp A c l) (h' : BufP w lo' hi' q m) (hap : hi ≤ lo' ∨ hi' ≤ lo) (at_ f n : Nat) (h1 : at_ + n ≤ l.length) (h2 : f + n ≤ m.length) :
    Calls Try.prog 13 #[.pointer (some ⟨g, 0, none⟩), .int .i64 at_, .pointer q, .int .i64 f, .int .i64 n] w (Copied w lo hi g mp A c (layC l at_ m f n)) := by
  rcases h' with ⟨rfl, rfl⟩ | ⟨g', mp', A', c', rfl, h'⟩
  · have hh := h.2.2.1
    exact (copy_core _ none w w _ lo hi g mp A c l _ _ _ none none 0 [] (some_ptr _ w) (some_nil w) (h.grow (World.grownBy_alloc _ _ none)) (.inr ⟨buf_empty w, .inl hh⟩) ⟨_, _, buf_empty w⟩ at_ f n h1 h2).mono fun e w' ⟨e1, e2, e3⟩ => ⟨e1, e2, Turn.grown' (World.grownBy_alloc _ _ none) e3⟩
  · exact copy_core _ _ w w w lo hi g mp A c l lo' hi' g' mp' A' c' m (some_ptr _ w) (some_ptr _ w) h (.inr ⟨h', hap⟩) ⟨lo', hi', h'⟩ at_ f n h1 h2
/-- no cells into no Buf. -/
theorem bufCopy_nil (w : World) (lo' hi' : Nat) (q : Option Addr) (m : List Cel) (h' : BufP w lo' hi' q m) (f : Nat) (h2 : f ≤ m.length) :
    Calls Try.prog 13 #[.pointer none, .int .i64 0, .pointer q, .int .i64 f, .int .i64 0] w (Gave (.bool true) w) := by
  have hb := buf_empty w
  have hs : (w.alloc (.cells #[.pointer none, .slice none 0 0] 65)).heap.size = w.heap.size + 1 := by simp
  rcases h' with ⟨rfl, rfl⟩ | ⟨g', mp', A', c', rfl, h'⟩
  · have hb2 := buf_empty (w.alloc (.cells #[.pointer none, .slice none 0 0] 65))
    exact (copy_core none none w _ _ _ _ _ none none 0 [] _ _ _ none none 0 [] (some_nil w) (some_nil _) (hb.grow (World.grownBy_alloc _ _ none)) (.inr ⟨hb2, .inl (by rw [hs]; exact Nat.le_refl _)⟩) ⟨_, _, hb2⟩ 0 f 0 (by simp) (by simpa using h2)).mono fun e w' ⟨e1, e2, e3⟩ =>
      ⟨e1, Turn.after (grown_alloc (grown_alloc (grown_refl _ _) _) _) e3 (Nat.le_refl _)⟩
  · have h3 := h'.2.2.1
    exact (copy_core none _ w _ _ _ _ _ none none 0 [] lo' hi' g' mp' A' c' m (some_nil w) (some_ptr _ _) hb (.inr ⟨h'.grow (World.grownBy_alloc _ _ none), .inr h3⟩) ⟨lo', hi', h'.grow (World.grownBy_alloc _ _ none)⟩ 0 f 0 (by simp) (by simpa using h2)).mono fun e w' ⟨e1, e2, e3⟩ =>
      ⟨e1, Turn.after (grown_alloc (grown_refl _ _) _) e3 (Nat.le_refl _)⟩
end Go.Proofs.Ytabkgdichlebmaa
