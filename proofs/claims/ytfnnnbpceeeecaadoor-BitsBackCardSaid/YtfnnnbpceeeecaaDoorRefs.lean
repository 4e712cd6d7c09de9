/-
  The references' New, From, Same, and the law's Same: contracts.
-/
import Derived.Test.YtfnnnbpceeeecaaDoorFrom
namespace Go.Proofs.YtfnnnbpceeeecaaDoor
open Go.ChangeShapes Go.WideShapes Go.ChangeAt Go.RowKit
set_option linter.unusedVariables false

/-! ### rows of truths of the call's own -/
def boolV (f : Nat → Bool) (n : Nat) : List Value := (List.range n).map fun j => Value.bool (f j)
theorem boolV_length (f : Nat → Bool) (n : Nat) : (boolV f n).length = n := by simp [boolV]
theorem boolV_get (f : Nat → Bool) (n j : Nat) (h : j < n) : (boolV f n)[j]? = some (Value.bool (f j)) := by simp [boolV, h]
theorem boolV_congr (f g : Nat → Bool) (n : Nat) (h : ∀ i, i < n → g i = f i) : boolV f n = boolV g n := by
  apply List.ext_getElem?
  intro i
  by_cases hi : i < n
  · rw [boolV_get _ _ _ hi, boolV_get _ _ _ hi, h i hi]
  · rw [List.getElem?_eq_none (by rw [boolV_length]; omega), List.getElem?_eq_none (by rw [boolV_length]; omega)]
theorem boolV_zero (n : Nat) (f : Nat → Bool) (h : ∀ j, j < n → f j = false) : List.replicate n (Value.bool false) = boolV f n := by
  apply List.ext_getElem?
  intro i
  by_cases hi : i < n
  · rw [boolV_get _ _ _ hi, h i hi]; simp [hi]
  · rw [List.getElem?_eq_none (by simp; omega), List.getElem?_eq_none (by rw [boolV_length]; omega)]
/-- the row at v has these truths, and is the call's own. -/
def OwnB (w : World) (base : Nat) (A : Option Addr) (n c : Nat) (f : Nat → Bool) : Prop := w.ownsRow base 4 1 (.slice A n c) n (boolV f n)
theorem OwnB.grow {w w' : World} {base n c : Nat} {A : Option Addr} {f : Nat → Bool} {row : Option Nat} (h : OwnB w base A n c f) (hg : w.grownBy w' row) (hr : row = none ∨ A.map (·.block) ≠ row) : OwnB w' base A n c f := by
  refine World.ownsRow.kept h hg ?_
  cases A with
  | none => exact .inl rfl
  | some a =>
    refine .inr ?_
    rcases hr with hr | hr
    · rw [hr]; simp [Value.ownBlock]
    · simpa [Value.ownBlock] using hr
theorem OwnB.at_ {w : World} {base n c : Nat} {A : Option Addr} {f : Nat → Bool} (h : OwnB w base A n c f) {j : Nat} (hj : j < n) :
    ∃ r, A = some ⟨r, 0, none⟩ ∧ base ≤ r ∧ r < w.heap.size ∧ w.cell? ⟨r, j, none⟩ = some (.bool (f j)) ∧ w.frozen? ⟨r, j, none⟩ = false := by
  obtain ⟨r, rfl, hb, hl, _, _⟩ := own_form h (by omega)
  refine ⟨r, rfl, hb, hl, ?_, World.ownsRow.frozenAt h j⟩
  rw [World.ownsRow.cellAt h j (by omega)]
  exact boolV_get f n j hj
theorem OwnB.put {w : World} {base n c r x : Nat} {f : Nat → Bool} (h : OwnB w base (some ⟨r, 0, none⟩) n c f) (f' : Nat → Bool) (hf : ∀ i, i < n → i ≠ x → f' i = f i) : OwnB (w.setCell ⟨r, x, none⟩ (.bool (f' x))) base (some ⟨r, 0, none⟩) n c f' := by
  have := (World.ownsRow.stored h x (.bool (f' x))).1
  have e : (boolV f n).set x (.bool (f' x)) = boolV f' n := by
    apply List.ext_getElem?
    intro i
    rw [List.getElem?_set]
    by_cases hi : i < n
    · rw [boolV_get _ _ _ hi, boolV_get _ _ _ hi, boolV_length]
      by_cases e : x = i
      · subst e; rw [if_pos rfl, if_pos hi]
      · rw [if_neg e, hf i hi (Ne.symm e)]
    · rw [List.getElem?_eq_none (l := boolV f n) (by rw [boolV_length]; omega), List.getElem?_eq_none (l := boolV f' n) (by rw [boolV_length]; omega)]
      by_cases e : x = i
      · subst e; rw [if_pos rfl, if_neg (by rw [boolV_length]; exact hi)]
      · rw [if_neg e]
  rw [e] at this
  exact this
theorem OwnB.congr {w : World} {base n c : Nat} {A : Option Addr} {f : Nat → Bool} (h : OwnB w base A n c f) (g : Nat → Bool) (hg : ∀ i, i < n → g i = f i) : OwnB w base A n c g := by
  unfold OwnB at h ⊢
  rw [← boolV_congr f g n hg]; exact h
theorem OwnB.bools {w : World} {base n c : Nat} {A : Option Addr} {f : Nat → Bool} (h : OwnB w base A n c f) : Bools w w.heap.size A n (tab n f) := by
  refine ⟨tab_length _ _, fun h0 => ?_⟩
  obtain ⟨r, rfl, hb, hl, _, _⟩ := own_form h h0
  refine ⟨r, 0, rfl, hl, fun k hk => ?_⟩
  rw [Nat.zero_add, World.ownsRow.cellAt h k (by omega), boolV_get f n k hk]
  show some (Value.bool (f k)) = some (Value.bool ((tab n f).getD k false))
  rw [tab_get]
  simp [hk]
theorem OwnB.lower {w : World} {base base' n c : Nat} {A : Option Addr} {f : Nat → Bool} (h : OwnB w base A n c f) (hb : base' ≤ base) : OwnB w base' A n c f := own_lower h hb
theorem info_bool : (Tryd.prog.info? 4).map (fun i => (i.zero, i.size, i.bytes)) = some (some (.bool false), 1, 1) := by kernel_rfl
theorem make_bools (m : Nat) (hm : m ≤ 2097152) : ∃ Z : Array Value, (∀ (W : World) (f : Nat → Bool), (∀ j, j < m → f j = false) → OwnB (W.alloc (.cells Z 4)) W.heap.size (some ⟨W.heap.size, 0, none⟩) m m f) ∧
    ∀ W : World, (Instr.makeSlice 26 (.int .i64 (m : Int)) (.int .i64 (m : Int))).run Tryd.prog W = .ok (.slice (some ⟨W.heap.size, 0, none⟩) m m) (W.alloc (.cells Z 4)) := by
  obtain ⟨i0, hi, hz0, hz1, hz2⟩ := info_parts info_bool
  have hZ : (madeCells (Value.bool false).cells (m * i0.size)).toList = List.replicate m (.bool false) := by rw [hz1]; exact zeros_of _ rfl m
  refine ⟨madeCells (Value.bool false).cells (m * i0.size), fun W f hf => ?_, fun W => ?_⟩
  · have := World.ownsRow_lit W (madeCells (Value.bool false).cells (m * i0.size)) m (Nat.le_refl _) (by unfold maxLen; omega) (e := 4) (size := 1) (by rw [← Array.length_toList, hZ]; simp)
    rw [hZ, boolV_zero m f hf] at this
    exact this
  · have h := run_make (P := Tryd.prog) W 26 4 i0 _ Tryd.underlying26 hi hz0 .i64 .i64 (m : Int) (m : Int) (by omega) (by omega) (by rw [hz2]; omega) (by omega)
    simpa using h
def NewBools (f : Nat → Bool) (n : Nat) (w : World) (e : Ending) (w' : World) : Prop :=
  ∃ A c, e = .returned (.slice A n c) ∧ OwnB w' w.heap.size A n c f ∧ w.grownBy w' none
set_option maxHeartbeats 1000000 in
theorem refNew_any (n : Int) (b : Bool) (hn : I64 n) (hn2 : n ≤ 2097152) (w : World) : Calls Tryd.prog 9 #[.int .i64 n, .bool b] w (NewBools (fun _ => b) (cutN n) w) := by
  unfold I64 at hn
  obtain ⟨N, hN⟩ : ∃ N : Nat, N = cutN n := ⟨_, rfl⟩
  have hNm : N ≤ 2097152 := by rw [hN]; unfold cutN; omega
  have hmax := max_f n N (by rw [hN]; unfold cutN; omega)
  rw [← hN]
  clear hN
  obtain ⟨Z, hZ, hmk⟩ := make_bools N hNm
  have HZ := Lib.hid (hZ w (fun j => if j < 0 then b else false) (fun j _ => rfl))
  clear hZ
  go_enter Tryd.func9, Tryd.ntmps9
  go_wp2
  go_loopw [6] (fun i wr => ∃ x : Nat, x ≤ N ∧ i = .int .i64 x ∧ OwnB wr w.heap.size (some ⟨w.heap.size, 0, none⟩) N N (fun j => if j < x then b else false) ∧ w.grownBy wr none) (fun i _ => N - (intOf i).toNat)
  case atStart => exact ⟨0, by omega, rfl, HZ.out, World.grownBy_alloc _ _ _⟩
  case round =>
    obtain ⟨x, hx, rfl, ho, hg⟩ := hrel
    by_cases hlt : x < N
    · obtain ⟨r, hr, hB, hl, hc, hfz⟩ := ho.at_ hlt
      obtain rfl : w.heap.size = r := by injection hr with hr; injection hr
      have HG := Lib.hid hg
      have HO := Lib.hid ho
      clear hg ho hr
      go_wp2
      go_roundw
      case rel => exact ⟨x + 1, by omega, by go_num, by
        have := HO.out.put (x := x) (fun j => if j < x + 1 then b else false) (fun i _ hi => by
          by_cases h : i < x
          · rw [if_pos h, if_pos (by omega)]
          · rw [if_neg h, if_neg (by omega)])
        rw [if_pos (by omega)] at this
        exact this, grown_put HG.out (.inr (Nat.le_refl _)) _⟩
      case measure => simp [intOf]; omega
    · obtain rfl : x = N := by omega
      have HG := Lib.hid hg
      have HO := Lib.hid ho
      clear hg ho
      go_wp2
      go_ret
      exact ⟨_, _, rfl, HO.out.congr _ (fun i hi => by rw [if_pos hi]), HG.out⟩

/-! ### the reference's From -/
theorem bit_asked8 (x s : Nat) (h : x < 256) : (bits BinOp.and IntKind.u8 ((x : Int) / 2 ^ s) 1 == 1) = x.testBit s := by
  rw [shr_cast, show (1 : Int) = ((1 : Nat) : Int) from rfl, u8_and_nat _ _ (shr_lt h) (by omega), nat_mask1, Nat.testBit_eq_decide_div_mod_eq]
  by_cases h1 : x / 2 ^ s % 2 = 1
  · rw [h1]; rfl
  · have h0 : x / 2 ^ s % 2 = 0 := by omega
    rw [h0]; rfl
def RefNo (w : World) (e : Ending) (w' : World) : Prop := e = .returned (.tuple #[.slice none 0 0, .bool false]) ∧ w.grownBy w' none
def RefYes (f : Nat → Bool) (n : Nat) (w : World) (e : Ending) (w' : World) : Prop :=
  ∃ A c, e = .returned (.tuple #[.slice A n c, .bool true]) ∧ OwnB w' w.heap.size A n c f ∧ w.grownBy w' none
theorem refFrom_no1 (A : Option Addr) (m c : Nat) (bs : List Nat) (n : Int) (hn : I64 n) (hm : m ≤ 1000000) (B : Nat) (w : World) (h : Octets w B A m bs) (hno : ¬ (0 ≤ n ∧ n ≤ 2097152 ∧ bs.length = (n.toNat + 7) / 8)) :
    Calls Tryd.prog 19 #[.slice A m c, .int .i64 n] w (RefNo w) := by
  have HL := Lib.hid h.1
  clear h
  by_cases h0 : n < 0
  · clear hno
    go_enter Tryd.func19, Tryd.ntmps19
    go_wp2
    go_ret2
    exact ⟨rfl, grown_refl _ _⟩
  · by_cases h1 : n > 2097152
    · clear hno
      go_enter Tryd.func19, Tryd.ntmps19
      go_wp2
      go_ret2
      exact ⟨rfl, grown_refl _ _⟩
    · obtain ⟨N, rfl⟩ : ∃ N : Nat, n = N := ⟨n.toNat, by omega⟩
      have hne : ((m : Int) != ((N : Int) + 7) / 8) = true := by
        have := HL.out
        simp
        omega
      clear hno
      go_enter Tryd.func19, Tryd.ntmps19
      go_wp2
      go_ret2
      exact ⟨rfl, grown_refl _ _⟩
set_option maxHeartbeats 2000000 in
theorem refFrom_yes (A : Option Addr) (m c : Nat) (bs : List Nat) (N : Nat) (w : World) (h : Octets w w.heap.size A m bs) (hf : Fits bs N) :
    Calls Tryd.prog 19 #[.slice A m c, .int .i64 N] w (RefYes (bitB bs) N w) := by
  have hN := hf.1
  have H := Lib.hid h
  have HL := Lib.hid h.1
  have HF := Lib.hid hf
  have hmB : m ≤ 262144 := by have := hf.2.1; have := h.1; omega
  have hm8 : N ≤ 8 * m := by have := hf.2.1; have := h.1; omega
  have hne : ((m : Int) != ((N : Int) + 7) / 8) = false := by
    have := hf.2.1; have := h.1
    simp
    omega
  obtain ⟨Z, hZ, hmk⟩ := make_bools N hN
  have HZ := Lib.hid (hZ w (fun j => if j < 0 then bitB bs j else false) (fun j _ => rfl))
  clear hZ h hf
  go_enter Tryd.func19, Tryd.ntmps19
  go_wp2
  go_loopw [7] (fun i wr => ∃ x : Nat, x ≤ 8 * m ∧ i = .int .i64 x ∧ OwnB wr w.heap.size (some ⟨w.heap.size, 0, none⟩) N N (fun j => if j < x then bitB bs j else false) ∧ w.grownBy wr none) (fun i _ => 8 * m - (intOf i).toNat)
  case atStart => exact ⟨0, by omega, rfl, HZ.out, World.grownBy_alloc _ _ _⟩
  case round =>
    obtain ⟨x, hx, rfl, ho, hg⟩ := hrel
    by_cases hlt : x < 8 * m
    · obtain ⟨b, off, rfl, hb, hcell⟩ := (H.out.keep (below_of_grown hg)).2.2.at_ (k := x / 8) (by omega)
      have hbv := H.out.2.1 (x / 8)
      have HB := Lib.hid (show bitB bs x = (bs.getD (x / 8) 0).testBit (x % 8) from rfl)
      generalize bs.getD (x / 8) 0 = v at *
      have hba := bit_asked8 v (x % 8) hbv
      generalize hbit : v.testBit (x % 8) = t at *
      clear hbit
      by_cases hxn : x < N
      · obtain ⟨r, hr, hB, hl, hc, hfz⟩ := ho.at_ hxn
        obtain rfl : w.heap.size = r := by injection hr with hr; injection hr
        have HG := Lib.hid hg
        have HO := Lib.hid ho
        clear hg ho hr
        go_wp2
        go_roundw
        case rel => exact ⟨x + 1, by omega, by go_num, by
          have := HO.out.put (x := x) (fun j => if j < x + 1 then bitB bs j else false) (fun i _ hi => by
            by_cases h : i < x
            · rw [if_pos h, if_pos (by omega)]
            · rw [if_neg h, if_neg (by omega)])
          rw [if_pos (by omega), HB.out] at this
          exact this, grown_put HG.out (.inr (Nat.le_refl _)) _⟩
        case measure => simp [intOf]; omega
      · have hz := HF.out.2.2 x (by omega) (by rw [HL.out]; exact hlt)
        rw [HB.out] at hz
        subst hz
        have HG := Lib.hid hg
        have HO := Lib.hid ho
        clear hg ho
        go_wp2
        go_roundw
        case rel => exact ⟨x + 1, by omega, by go_num, HO.out.congr _ (fun i hi => by rw [if_pos (by omega), if_pos (by omega)]), HG.out⟩
        case measure => simp [intOf]; omega
    · obtain rfl : x = 8 * m := by omega
      have HG := Lib.hid hg
      have HO := Lib.hid ho
      clear hg ho
      go_wp2
      go_ret2
      exact ⟨_, _, rfl, HO.out.congr _ (fun i hi => by rw [if_pos (by omega)]), HG.out⟩
set_option maxHeartbeats 2000000 in
theorem refFrom_no2 (A : Option Addr) (m c : Nat) (bs : List Nat) (N : Nat) (hN : N ≤ 2097152) (w : World) (h : Octets w w.heap.size A m bs) (hl : bs.length = (N + 7) / 8) (hno : ¬ Fits bs N) :
    Calls Tryd.prog 19 #[.slice A m c, .int .i64 N] w (RefNo w) := by
  have H := Lib.hid h
  have HL := Lib.hid h.1
  have HNO := Lib.hid (show ¬ ∀ i, N ≤ i → i < 8 * m → bitB bs i = false from fun hc => hno ⟨hN, hl, fun i h1 h2 => hc i h1 (by have := h.1; omega)⟩)
  have hmB : m ≤ 262144 := by have := h.1; omega
  have hm8 : N ≤ 8 * m := by have := h.1; omega
  have hne : ((m : Int) != ((N : Int) + 7) / 8) = false := by
    have := h.1
    simp
    omega
  obtain ⟨Z, hZ, hmk⟩ := make_bools N hN
  have HZ := Lib.hid (hZ w (fun j => if j < 0 then bitB bs j else false) (fun j _ => rfl))
  clear hZ h hno hl
  go_enter Tryd.func19, Tryd.ntmps19
  go_wp2
  go_loopw [7] (fun i wr => ∃ x : Nat, x ≤ 8 * m ∧ i = .int .i64 x ∧ OwnB wr w.heap.size (some ⟨w.heap.size, 0, none⟩) N N (fun j => if j < x then bitB bs j else false) ∧ w.grownBy wr none ∧ ∀ i, N ≤ i → i < x → bitB bs i = false) (fun i _ => 8 * m - (intOf i).toNat)
  case atStart => exact ⟨0, by omega, rfl, HZ.out, World.grownBy_alloc _ _ _, by omega⟩
  case round =>
    obtain ⟨x, hx, rfl, ho, hg, hq⟩ := hrel
    have HQ := Lib.hid hq
    clear hq
    by_cases hlt : x < 8 * m
    · obtain ⟨b, off, rfl, hb, hcell⟩ := (H.out.keep (below_of_grown hg)).2.2.at_ (k := x / 8) (by omega)
      have hbv := H.out.2.1 (x / 8)
      have HB := Lib.hid (show bitB bs x = (bs.getD (x / 8) 0).testBit (x % 8) from rfl)
      generalize bs.getD (x / 8) 0 = v at *
      have hba := bit_asked8 v (x % 8) hbv
      generalize hbit : v.testBit (x % 8) = t at *
      clear hbit
      by_cases hxn : x < N
      · obtain ⟨r, hr, hB, hl, hc, hfz⟩ := ho.at_ hxn
        obtain rfl : w.heap.size = r := by injection hr with hr; injection hr
        have HG := Lib.hid hg
        have HO := Lib.hid ho
        clear hg ho hr
        go_wp2
        go_roundw
        case rel => exact ⟨x + 1, by omega, by go_num, by
          have := HO.out.put (x := x) (fun j => if j < x + 1 then bitB bs j else false) (fun i _ hi => by
            by_cases h : i < x
            · rw [if_pos h, if_pos (by omega)]
            · rw [if_neg h, if_neg (by omega)])
          rw [if_pos (by omega), HB.out] at this
          exact this, grown_put HG.out (.inr (Nat.le_refl _)) _, by omega⟩
        case measure => simp [intOf]; omega
      · have HG := Lib.hid hg
        have HO := Lib.hid ho
        clear hg ho
        cases t
        · go_wp2
          go_roundw
          case rel => exact ⟨x + 1, by omega, by go_num, HO.out.congr _ (fun i hi => by rw [if_pos (by omega), if_pos (by omega)]), HG.out, fun i h1 h2 => by
            by_cases hi : i = x
            · subst hi; exact HB.out
            · exact HQ.out i h1 (by omega)⟩
          case measure => simp [intOf]; omega
        · go_wp2
          go_ret2
          exact ⟨rfl, HG.out⟩
    · obtain rfl : x = 8 * m := by omega
      exact absurd HQ.out HNO.out

/-! ### the reference's Same, the law's Same -/
/-- no unlike truth among the first x. -/
def AlikeTo (l m : List Bool) (x : Nat) : Prop := ∀ i, i < x → l.getD i false = m.getD i false
theorem AlikeTo.step {l m : List Bool} {x : Nat} (h : AlikeTo l m x) (e : l.getD x false = m.getD x false) : AlikeTo l m (x + 1) := fun i hi => by
  by_cases hx : i = x
  · subst hx; exact e
  · exact h i (by omega)
def Told (b : Bool) (w : World) (e : Ending) (w' : World) : Prop := e = .returned (.bool b) ∧ ∃ m, w' = w.drewN m
theorem told_eq {b c : Bool} (h : b = c) (w : World) (m : Nat) : Told c w (.returned (.bool b)) (w.drewN m) := ⟨by rw [h], m, rfl⟩
theorem alike_no {l m : List Bool} {x : Nat} (h : ¬ l.getD x false = m.getD x false) : false = decide (l = m) := (decide_eq_false fun e => h (by rw [e])).symm
theorem alike_len {l m : List Bool} (h : ¬ l.length = m.length) : false = decide (l = m) := (decide_eq_false fun e => h (by rw [e])).symm
theorem alike_yes {l m : List Bool} {x : Nat} (h : AlikeTo l m x) (h1 : l.length = x) (h2 : m.length = x) : true = decide (l = m) := (decide_eq_true (list_eq (h1.trans h2.symm) fun i hi => h i (by omega))).symm
set_option maxHeartbeats 1000000 in
theorem refSame_any (A A' : Option Addr) (n n' c c' : Nat) (l l' : List Bool) (B : Nat) (w : World) (h : Bools w B A n l) (h' : Bools w B A' n' l') (hn : n ≤ 2097152) (hn' : n' ≤ 2097152) :
    Calls Tryd.prog 28 #[.slice A n c, .slice A' n' c'] w (Told (decide (l = l')) w) := by
  have H := Lib.hid h
  have H' := Lib.hid h'
  have HN := Lib.hid h.1
  have HN' := Lib.hid h'.1
  clear h h'
  by_cases hnn : n = n'
  · subst hnn
    go_enter Tryd.func28, Tryd.ntmps28
    go_wp2
    go_loopw [5] (fun i wr => ∃ x m : Nat, x ≤ n ∧ i = .int .i64 x ∧ AlikeTo l l' x ∧ wr = w.drewN m) (fun i _ => n - (intOf i).toNat)
    case atStart => exact ⟨0, 0, by omega, rfl, fun i hi => by omega, rfl⟩
    case round =>
      obtain ⟨x, m, hx, rfl, hq, hwr⟩ := hrel
      have HQ := Lib.hid hq
      clear hq
      by_cases hlt : x < n
      · obtain ⟨b, off, rfl, _, hc⟩ := (H.out.drewN m).2.at_ hlt
        obtain ⟨b', off', rfl, _, hc'⟩ := (H'.out.drewN m).2.at_ hlt
        rw [← hwr] at hc hc'
        have HW := Lib.hid hwr
        clear hwr
        generalize h1 : l.getD x false = v at *
        generalize h2 : l'.getD x false = v' at *
        have H1 := Lib.hid h1
        have H2 := Lib.hid h2
        clear h1 h2
        by_cases he : v = v'
        · subst he
          cases v
          all_goals
            go_wp2
            go_quiet (fail)
            go_wp2
            go_roundw
            case rel => exact ⟨x + 1, _, by omega, by go_num, HQ.out.step (by rw [H1.out, H2.out]), by rw [HW.out, World.drewN_drewN]⟩
            case measure => simp [intOf]; omega
        · have HE := Lib.hid he
          cases v
          all_goals cases v'
          all_goals first | exact absurd rfl he | skip
          all_goals
            clear he
            go_wp2
            go_quiet (fail)
            go_wp2
            go_ret
            rw [HW.out, World.drewN_drewN]
            exact told_eq (alike_no (x := x) (by rw [H1.out, H2.out]; exact HE.out)) w _
      · obtain rfl : x = n := by omega
        subst hwr
        go_wp2
        go_ret
        exact told_eq (alike_yes HQ.out HN.out HN'.out) w m
  · have hne : ((n : Int) != (n' : Int)) = true := by simp; omega
    have HNN := Lib.hid hnn
    clear hnn
    go_enter Tryd.func28, Tryd.ntmps28
    go_wp2
    go_ret
    exact told_eq (alike_len (by rw [HN.out, HN'.out]; exact HNN.out)) w 0
set_option maxHeartbeats 1000000 in
theorem lawSame_any (p : Option Addr) (A : Option Addr) (n c : Nat) (l l' : List Bool) (B B' : Nat) (w : World) (h : MaskP w B p l) (h' : Bools w B' A n l') (hn : n ≤ 2097152) :
    Calls Tryd.prog 17 #[.pointer p, .slice A n c] w (Told (decide (l = l')) w) := by
  have H := Lib.hid h
  have H' := Lib.hid h'
  have HN' := Lib.hid h'.1
  have hlm := h.small
  clear h h'
  by_cases hnn : l.length = n
  · have HN := Lib.hid hnn
    have hne : ((l.length : Int) != (n : Int)) = false := by simp; omega
    have HM1 := Lib.hid (tr_neg l (-1) (by omega))
    have HP1 := Lib.hid (tr_past l (n : Int) (by omega))
    clear hnn
    go_enter Tryd.func17, Tryd.ntmps17
    go_wp2_with (go_at_call 24; refine (len_any _ l _ _ H.out).mono ?_; rintro e w' ⟨rfl, hww⟩; subst hww)
    go_loopw [5] (fun i wr => ∃ x m : Nat, x ≤ n ∧ i = .int .i64 x ∧ AlikeTo l l' x ∧ wr = w'.drewN m) (fun i _ => n - (intOf i).toNat)
    case atStart => exact ⟨0, 0, by omega, rfl, fun i hi => by omega, rfl⟩
    case round =>
      obtain ⟨x, m, hx, rfl, hq, hwr⟩ := hrel
      have HQ := Lib.hid hq
      clear hq
      by_cases hlt : x < n
      · obtain ⟨b', off', rfl, _, hc'⟩ := (H'.out.drewN m).2.at_ hlt
        have hp := H.out.drewN m
        rw [← hwr] at hc' hp
        have HW := Lib.hid hwr
        clear hwr
        have HT := Lib.hid (tr_nat l x)
        generalize h1 : l.getD x false = v at *
        generalize h2 : l'.getD x false = v' at *
        have H1 := Lib.hid h1
        have H2 := Lib.hid h2
        clear h1 h2
        have HC := Lib.hid (fun a => get_any p l (x : Int) B (wr.drewN a) (hp.drewN a))
        clear hp
        rw [HT.out] at HC
        by_cases he : v = v'
        · subst he
          cases v
          all_goals
            go_wp2
            go_quiet ((go_at_call 25; exact Calls.quiet_of_same (HC.out _)))
            go_wp2
            go_roundw
            case rel => exact ⟨x + 1, _, by omega, by go_num, HQ.out.step (by rw [H1.out, H2.out]), by rw [HW.out, World.drewN_drewN]⟩
            case measure => simp [intOf]; omega
        · have HE := Lib.hid he
          cases v
          all_goals cases v'
          all_goals first | exact absurd rfl he | skip
          all_goals
            clear he
            go_wp2
            go_quiet ((go_at_call 25; exact Calls.quiet_of_same (HC.out _)))
            go_wp2
            go_ret
            rw [HW.out, World.drewN_drewN]
            exact told_eq (alike_no (x := x) (by rw [H1.out, H2.out]; exact HE.out)) w' _
      · obtain rfl : x = n := by omega
        subst hwr
        go_wp2_with fail
        refine (get_any p l (-1) B _ (H.out.drewN m)).mono ?_
        rintro e w1 ⟨rfl, hww⟩
        subst hww
        rw [HM1.out]
        go_wp2_with fail
        refine (get_any p l _ B _ (H.out.drewN m)).mono ?_
        rintro e w1 ⟨rfl, hww⟩
        subst hww
        rw [HP1.out]
        go_wp2_with fail
        go_ret
        exact told_eq (alike_yes HQ.out HN.out HN'.out) w' m
  · have hne : ((l.length : Int) != (n : Int)) = true := by simp; omega
    have HNN := Lib.hid hnn
    clear hnn
    go_enter Tryd.func17, Tryd.ntmps17
    go_wp2_with (go_at_call 24; refine (len_any _ l _ _ H.out).mono ?_; rintro e w' ⟨rfl, hww⟩; subst hww)
    go_ret
    exact told_eq (alike_len (by rw [HN'.out]; exact HNN.out)) w' 0
end Go.Proofs.YtfnnnbpceeeecaaDoor
