/-
  bits.Fill, Set, New: contracts.
-/
import Derived.Test.YtabkgdichlebmaaGet
namespace Go.Proofs.Ytabkgdichlebmaa
open Go.ChangeShapes Go.WideShapes Go.ChangeAt Go.RowKit
set_option linter.unusedVariables false

theorem fill_bad (p : Option Addr) (l : List Bool) (f t : Int) (b : Bool) (B : Nat) (w : World) (h : MaskP w B p l) (hb : ¬ (0 ≤ f ∧ f ≤ t ∧ t ≤ l.length)) :
    Calls Try.prog 39 #[.pointer p, .int .i64 f, .int .i64 t, .bool b] w fun e w' => e = .returned (.bool false) ∧ w' = w := by
  have H := Lib.hid h
  clear h
  by_cases h0 : 0 ≤ f
  · by_cases h1 : f ≤ t
    · have h2 : (l.length : Int) < t := by omega
      clear hb
      go_enter Try.func39, Try.ntmps39
      go_wp2_with (go_at_call 46; refine (len_any _ l _ _ H.out).mono ?_; rintro e w' ⟨rfl, rfl⟩)
      all_goals go_ret
      all_goals exact ⟨rfl, rfl⟩
    · clear hb
      go_enter Try.func39, Try.ntmps39
      go_wp2_with (go_at_call 46; refine (len_any _ l _ _ H.out).mono ?_; rintro e w' ⟨rfl, rfl⟩)
      all_goals go_ret
      all_goals exact ⟨rfl, rfl⟩
  · clear hb
    go_enter Try.func39, Try.ntmps39
    go_wp2_with (go_at_call 46; refine (len_any _ l _ _ H.out).mono ?_; rintro e w' ⟨rfl, rfl⟩)
    all_goals go_ret
    all_goals exact ⟨rfl, rfl⟩
theorem fill_nil (b : Bool) (w : World) :
    Calls Try.prog 39 #[.pointer none, .int .i64 0, .int .i64 0, .bool b] w fun e w' => e = .returned (.bool true) ∧ w' = w := by
  go_enter Try.func39, Try.ntmps39
  go_wp2_with (go_at_call 46; refine (len_any none [] 0 _ (MaskP.nil _ _)).mono ?_; rintro e w' ⟨rfl, rfl⟩)
  go_loop [1] (fun f => f = .int .i64 0) (fun f => 0)
  case atStart => exact rfl
  case round =>
    obtain rfl := hrel
    go_wp2
    go_ret
    exact ⟨rfl, rfl⟩

theorem part_cast (x e : Nat) (h : x < e) (he : e ≤ (x / 64 + 1) * 64) : IntKind.u64.wrap (18446744073709551615 / 2 ^ (64 - (e - x)) * 2 ^ (x % 64)) = ((part (x % 64) (e - x) : Nat) : Int) := by
  rw [← part_eq (x % 64) (e - x) (by omega) (by omega), IntKind.wrap_u64]
  have : (18446744073709551615 : Int) / 2 ^ (64 - (e - x)) = ((18446744073709551615 / 2 ^ (64 - (e - x)) : Nat) : Int) := shr_cast _ _
  rw [this]
  generalize 18446744073709551615 / 2 ^ (64 - (e - x)) = y
  have h2 : (y : Int) * 2 ^ (x % 64) = ((y * 2 ^ (x % 64) : Nat) : Int) := by simp
  rw [h2]
  omega
/-- one word's part filled. -/
theorem fill_step {w : World} {B g r k c f x e : Nat} {l : List Bool} {b : Bool} (hm : Mask w B g (some ⟨r, 0, none⟩) k c (fillL l f x b)) (hfx : f ≤ x) (hxe : x < e) (hel : e ≤ l.length) (hew : e ≤ (x / 64 + 1) * 64)
    (u : Int) (hu : u = if b then bits BinOp.or IntKind.u64 ((word (fillL l f x b) (x / 64) : Nat) : Int) (IntKind.u64.wrap (18446744073709551615 / 2 ^ (64 - (e - x)) * 2 ^ (x % 64)))
      else bits BinOp.andNot IntKind.u64 ((word (fillL l f x b) (x / 64) : Nat) : Int) (IntKind.u64.wrap (18446744073709551615 / 2 ^ (64 - (e - x)) * 2 ^ (x % 64)))) :
    Mask (w.setCell ⟨r, x / 64, none⟩ (.int .u64 u)) B g (some ⟨r, 0, none⟩) k c (fillL l f e b) := by
  have hv : u = ((word (fillL l f e b) (x / 64) : Nat) : Int) := by
    rw [hu, word_fill_at l f x e b hfx hxe hel hew, part_cast x e hxe hew]
    cases b
    · rw [if_neg (by simp), if_neg (by simp), u64_andNot_nat _ _ (word_lt _ _) (part_lt _ _)]
    · rw [if_pos rfl, if_pos rfl, u64_or_nat _ _ (word_lt _ _) (part_lt _ _)]
  rw [hv]
  refine hm.put (by rw [fillL_length, fillL_length]) ?_ fun i _ hi => word_fill_far l f x e i b hfx hxe hel hew hi
  have := hm.count
  rw [this]; unfold nw; rw [fillL_length]; omega
def Filled (w : World) (B g : Nat) (A : Option Addr) (k c : Nat) (l : List Bool) (e : Ending) (w' : World) : Prop :=
  e = .returned (.bool true) ∧ Mask w' B g A k c l ∧ w.grownBy w' (A.map (·.block))
theorem fill_any (g : Nat) (A : Option Addr) (k c : Nat) (l : List Bool) (f t : Nat) (b : Bool) (B : Nat) (w : World) (h : Mask w B g A k c l) (hft : f ≤ t) (ht : t ≤ l.length) :
    Calls Try.prog 39 #[.pointer (some ⟨g, 0, none⟩), .int .i64 f, .int .i64 t, .bool b] w (Filled w B g A k c (fillL l f t b)) := by
  have H := Lib.hid h
  have hs := h.small
  have hk := Lib.hid h.count
  clear h
  go_enter Try.func39, Try.ntmps39
  go_wp2_with (go_at_call 46; refine (len_any _ l _ _ H.out.p).mono ?_; rintro e w' ⟨rfl, hww⟩; subst hww)
  go_loopw [1] (fun f' wr => ∃ x : Nat, f ≤ x ∧ x ≤ t ∧ f' = .int .i64 x ∧ Mask wr B g A k c (fillL l f x b) ∧ w'.grownBy wr (A.map (·.block))) (fun f' _ => t - (intOf f').toNat)
  case atStart => exact ⟨f, Nat.le_refl _, hft, rfl, by rw [fillL_none _ _ _ (by omega)]; exact H.out, grown_refl _ _⟩
  case round =>
    obtain ⟨x, hx1, hx2, rfl, hm, hg⟩ := hrel
    by_cases hlt : x < t
    · have hj : x / 64 < k := by rw [hk.out]; unfold nw; omega
      have hrow := hm.row_cell
      obtain ⟨r, rfl, hne, hB, hc, hfz⟩ := hm.at_ hj
      have HG := Lib.hid hg
      have HM := Lib.hid hm
      clear hg hm
      generalize hwd : word (fillL l f x b) (x / 64) = v at *
      have HW := Lib.hid hwd
      clear hwd
      by_cases hend : t ≤ (x / 64 + 1) * 64
      · cases b
        · go_wp2
          go_roundw
          case rel => exact ⟨t, by omega, by omega, rfl, fill_step HM.out hx1 hlt ht hend _ (by rw [HW.out]; rfl), grown_put HG.out (.inl rfl) _⟩
          case measure => simp [intOf]; omega
        · go_wp2
          go_roundw
          case rel => exact ⟨t, by omega, by omega, rfl, fill_step HM.out hx1 hlt ht hend _ (by rw [HW.out]; rfl), grown_put HG.out (.inl rfl) _⟩
          case measure => simp [intOf]; omega
      · cases b
        · go_wp2
          go_roundw
          case rel => exact ⟨(x / 64 + 1) * 64, by omega, by omega, by go_num, fill_step HM.out hx1 (by omega) (by omega) (Nat.le_refl _) _ (by rw [HW.out]; rfl), grown_put HG.out (.inl rfl) _⟩
          case measure => simp [intOf]; omega
        · go_wp2
          go_roundw
          case rel => exact ⟨(x / 64 + 1) * 64, by omega, by omega, by go_num, fill_step HM.out hx1 (by omega) (by omega) (Nat.le_refl _) _ (by rw [HW.out]; rfl), grown_put HG.out (.inl rfl) _⟩
          case measure => simp [intOf]; omega
    · obtain rfl : x = t := by omega
      have HG := Lib.hid hg
      have HM := Lib.hid hm
      clear hg hm
      go_wp2
      go_ret
      exact ⟨rfl, HM.out, HG.out⟩
/-- what Fill answers, whatever from and to are. -/
def fillB (l : List Bool) (f t : Int) : Bool := decide (0 ≤ f ∧ f ≤ t ∧ t ≤ l.length)
/-- and the truths behind it. -/
def fillE (l : List Bool) (f t : Int) (b : Bool) : List Bool := if fillB l f t then fillL l f.toNat t.toNat b else l
def FilledE (w : World) (B g : Nat) (A : Option Addr) (k c : Nat) (x : Bool) (l : List Bool) (e : Ending) (w' : World) : Prop :=
  e = .returned (.bool x) ∧ Mask w' B g A k c l ∧ w.grownBy w' (A.map (·.block))
theorem fill_all (g : Nat) (A : Option Addr) (k c : Nat) (l : List Bool) (f t : Int) (b : Bool) (B : Nat) (w : World) (h : Mask w B g A k c l) :
    Calls Try.prog 39 #[.pointer (some ⟨g, 0, none⟩), .int .i64 f, .int .i64 t, .bool b] w (FilledE w B g A k c (fillB l f t) (fillE l f t b)) := by
  by_cases hd : 0 ≤ f ∧ f ≤ t ∧ t ≤ l.length
  · have hb : fillB l f t = true := decide_eq_true hd
    obtain ⟨F, rfl⟩ : ∃ n : Nat, f = n := ⟨f.toNat, by omega⟩
    obtain ⟨T, rfl⟩ : ∃ n : Nat, t = n := ⟨t.toNat, by omega⟩
    unfold fillE
    rw [hb, if_pos rfl]
    exact (fill_any g A k c l F T b B w h (by omega) (by omega)).mono fun e w' ⟨h1, h2, h3⟩ => ⟨h1, h2, h3⟩
  · have hb : fillB l f t = false := decide_eq_false hd
    unfold fillE
    rw [hb, if_neg (by simp)]
    refine (fill_bad _ l f t b B w h.p hd).mono fun e w' ⟨h1, h2⟩ => ?_
    subst h2
    exact ⟨h1, h, grown_refl _ _⟩

/-! ### Set -/
def setE (l : List Bool) (i : Int) (b : Bool) : List Bool := if hasB l i then fillL l i.toNat (i.toNat + 1) b else l
theorem set_no (p : Option Addr) (l : List Bool) (i : Int) (b : Bool) (B : Nat) (w : World) (h : MaskP w B p l) (hi : hasB l i = false) :
    Calls Try.prog 40 #[.pointer p, .int .i64 i, .bool b] w fun e w' => e = .returned (.bool false) ∧ w' = w := by
  have H := Lib.hid h
  have HI := Lib.hid hi
  clear h hi
  go_enter Try.func40, Try.ntmps40
  go_wp2_with (go_at_call 47; refine (has_any _ l _ _ _ H.out).mono ?_; rintro e w' ⟨rfl, rfl⟩; rw [HI.out])
  go_ret
  exact ⟨rfl, rfl⟩
theorem set_yes (g : Nat) (A : Option Addr) (k c : Nat) (l : List Bool) (i : Nat) (b : Bool) (B : Nat) (w : World) (h : Mask w B g A k c l) (hi : i < l.length) :
    Calls Try.prog 40 #[.pointer (some ⟨g, 0, none⟩), .int .i64 i, .bool b] w (Filled w B g A k c (fillL l i (i + 1) b)) := by
  have hs := h.small
  have H := Lib.hid h
  have HI := Lib.hid (show hasB l i = true by unfold hasB; simp; omega)
  have HF := Lib.hid (fill_any g A k c l i (i + 1) b B w h (by omega) (by omega))
  clear h
  go_enter Try.func40, Try.ntmps40
  go_wp2_with fail
  refine (has_any _ l _ _ _ H.out.p).mono ?_
  rintro e w' ⟨rfl, hww⟩
  subst hww
  rw [HI.out]
  go_wp2_with fail
  refine HF.out.mono ?_
  rintro e w1 ⟨rfl, hm, hg⟩
  have HM := Lib.hid hm
  have HG := Lib.hid hg
  clear hm hg
  go_wp2_with fail
  go_ret
  exact ⟨rfl, HM.out, HG.out⟩
theorem set_all (g : Nat) (A : Option Addr) (k c : Nat) (l : List Bool) (i : Int) (b : Bool) (B : Nat) (w : World) (h : Mask w B g A k c l) :
    Calls Try.prog 40 #[.pointer (some ⟨g, 0, none⟩), .int .i64 i, .bool b] w (FilledE w B g A k c (hasB l i) (setE l i b)) := by
  cases hd : hasB l i
  · unfold setE
    rw [hd, if_neg (by simp)]
    refine (set_no _ l i b B w h.p hd).mono fun e w' ⟨h1, h2⟩ => ?_
    subst h2
    exact ⟨h1, h, grown_refl _ _⟩
  · have hp := of_decide_eq_true hd
    obtain ⟨n, rfl⟩ : ∃ n : Nat, i = n := ⟨i.toNat, by omega⟩
    unfold setE
    rw [hd, if_pos rfl]
    exact (set_yes g A k c l n b B w h (by omega)).mono fun e w' ⟨h1, h2, h3⟩ => ⟨h1, h2, h3⟩

/-! ### New -/
def allL (n : Nat) (b : Bool) : List Bool := List.replicate n b
theorem fill_allL (n : Nat) (b : Bool) : fillL (none_ n) 0 n b = allL n b := by
  refine list_eq (by rw [fillL_length, none_length]; simp [allL]) fun i hi => ?_
  rw [fillL_length, none_length] at hi
  rw [fillL_get _ _ _ _ _ (by rw [none_length]; exact Nat.le_refl _), if_pos ⟨by omega, hi⟩]
  simp [allL, List.getD, hi]
theorem new_any (n : Int) (b : Bool) (hn : I64 n) (w : World) : Calls Try.prog 38 #[.int .i64 n, .bool b] w (NewMask (allL (cutN n) b) w) := by
  go_enter Try.func38, Try.ntmps38
  go_wp2_with fail
  refine (blank_any n hn w).mono ?_
  rintro e w1 ⟨g, A, k, c, rfl, hm, hg⟩
  have HF := Lib.hid (fill_any g A k c _ 0 (cutN n) b _ w1 hm (by omega) (by rw [none_length]; exact Nat.le_refl _))
  have hlen := hm.len_cell
  rw [none_length] at hlen
  have HO := Lib.hid hm.2.2.2
  have HG := Lib.hid hg
  clear hm hg
  rw [fill_allL] at HF
  go_wp2_with fail
  refine HF.out.mono ?_
  rintro e w2 ⟨rfl, hm, hg⟩
  have HM := Lib.hid hm
  have HG2 := Lib.hid hg
  clear hm hg
  go_wp2_with fail
  go_ret
  refine ⟨g, A, k, c, rfl, HM.out, grown_join HG.out HG2.out (.inr fun x hx => ?_)⟩
  cases A with
  | none => cases hx
  | some a => exact (HO.out.lt x hx).1
end Go.Proofs.Ytabkgdichlebmaa
