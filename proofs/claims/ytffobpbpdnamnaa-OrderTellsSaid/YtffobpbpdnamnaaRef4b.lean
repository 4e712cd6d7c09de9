/-
  Layer 4: the reference's Back, Rising, Merge.
-/
import Derived.Test.YtffobpbpdnamnaaRef4
import Derived.Test.YtffobpbpdnamnaaOrd
namespace Go.Proofs.Ytffobpbpdnamnaa
open Go.ChangeShapes Go.WideShapes Go.ChangeAt Go.RowKit
set_option linter.unusedVariables false

/-! ### lists by places -/
def tabI (n : Nat) (f : Nat → Int) : List Int := (List.range n).map f
theorem tabI_length (n : Nat) (f : Nat → Int) : (tabI n f).length = n := by simp [tabI]
theorem tabI_get (n : Nat) (f : Nat → Int) (i : Nat) (h : i < n) : (tabI n f).getD i 0 = f i := by simp [tabI, List.getD, h]
theorem tabI_congr {n : Nat} {f g : Nat → Int} (h : ∀ i, i < n → f i = g i) : tabI n f = tabI n g :=
  ints_eq (by rw [tabI_length, tabI_length]) fun i hi => by rw [tabI_length] at hi; rw [tabI_get _ _ _ hi, tabI_get _ _ _ hi, h i hi]
theorem tabI_set (n : Nat) (f : Nat → Int) (i : Nat) (z : Int) : (tabI n f).set i z = tabI n fun j => if j = i then z else f j := by
  refine ints_eq (by rw [List.length_set, tabI_length, tabI_length]) fun j hj => ?_
  rw [List.length_set, tabI_length] at hj
  rw [tabI_get _ _ _ hj]
  by_cases e : j = i
  · subst e
    rw [if_pos rfl]
    simp [List.getD, tabI_length, hj]
  · rw [if_neg e]
    have h1 := tabI_get n f j hj
    simp only [List.getD] at h1 ⊢
    rw [List.getElem?_set_ne (Ne.symm e), h1]
theorem make_ints (m : Nat) (hm : m ≤ 1048576) : ∃ Z : Array Value, Z.toList = intV (tabI m fun _ => 0) ∧ ∀ W : World, (Instr.makeSlice 22 (.int .i64 (m : Int)) (.int .i64 (m : Int))).run Try.prog W = .ok (.slice (some ⟨W.heap.size, 0, none⟩) m m) (W.alloc (.cells Z 3)) := by
  obtain ⟨i0, hi, hz0, hz1, hz2⟩ := info_parts info_int
  refine ⟨madeCells (Value.int .i64 0).cells (m * i0.size), ?_, fun W => ?_⟩
  · rw [hz1]
    apply List.ext_getElem
    · simp [madeCells, intV, tabI]
    · intro i h1 h2
      simp [madeCells, Nat.mod_one, intV, tabI, Value.cells]
  · have h := run_make (P := Try.prog) W 22 3 i0 _ Try.underlying22 hi hz0 .i64 .i64 (m : Int) (m : Int) (by omega) (by omega) (by rw [hz2]; omega) (by omega)
    simpa using h
theorem made_ints {w : World} {m : Nat} {zs : List Int} {Z : Array Value} (hm : m ≤ 1048576) (hl : zs.length = m) (hZ : Z.toList = intV zs) : OwnI (w.alloc (.cells Z 3)) w.heap.size (some ⟨w.heap.size, 0, none⟩) m m zs := by
  refine ⟨hl, ?_⟩
  rw [← hZ]
  exact World.ownsRow_lit w Z _ (Nat.le_refl _) (by unfold maxLen; omega) (by rw [← Array.length_toList, hZ, intV_length, hl]; omega)

/-! ### Back -/
/-- the first x of these are places, each once. -/
def Good (ps : List Int) (x : Nat) : Prop := ∀ i, i < x → (0 ≤ ps.getD i 0 ∧ ps.getD i 0 < ps.length) ∧ ∀ j, j < i → ps.getD j 0 ≠ ps.getD i 0
instance (ps : List Int) (x : Nat) : Decidable (Good ps x) := by unfold Good; infer_instance
def okBack (ps : List Int) : Bool := decide (Good ps ps.length)
/-- where q stands among the first x of these. -/
def posB (ps : List Int) : Nat → Nat → Int
  | 0, _ => -1
  | x + 1, q => if ps.getD x 0 = (q : Int) then (x : Int) else posB ps x q
theorem posB_cases (ps : List Int) (x q : Nat) : (posB ps x q = -1 ∧ ∀ j, j < x → ps.getD j 0 ≠ (q : Int)) ∨ (0 ≤ posB ps x q ∧ ∃ j, j < x ∧ ps.getD j 0 = (q : Int)) := by
  induction x with
  | zero => exact .inl ⟨rfl, fun j hj => by omega⟩
  | succ x ih =>
    unfold posB
    by_cases e : ps.getD x 0 = (q : Int)
    · rw [if_pos e]
      exact .inr ⟨by omega, x, by omega, e⟩
    · rw [if_neg e]
      rcases ih with ⟨h1, h2⟩ | ⟨h1, j, hj, h2⟩
      · refine .inl ⟨h1, fun j hj => ?_⟩
        by_cases ej : j = x
        · subst ej; exact e
        · exact h2 j (by omega)
      · exact .inr ⟨h1, j, by omega, h2⟩
def backE (ps : List Int) : List Int := if okBack ps then tabI ps.length (posB ps ps.length) else []
theorem not_good {ps : List Int} {x : Nat} (hx : x < ps.length) (h : ¬ ((0 ≤ ps.getD x 0 ∧ ps.getD x 0 < ps.length) ∧ ∀ j, j < x → ps.getD j 0 ≠ ps.getD x 0)) : okBack ps = false :=
  decide_eq_false fun hg => h (hg x hx)
set_option maxHeartbeats 1000000 in
theorem ref4Back_any (A : Option Addr) (k c : Nat) (ps : List Int) (w : World) (h : Nums w w.heap.size A k ps) (hk : k ≤ 1048576) :
    Calls Try.prog 10 #[.slice A k c] w (GaveIntsB (backE ps) (okBack ps) w) := by
  have H := Lib.hid h
  have HL := Lib.hid h.1
  obtain ⟨Z, hZ, hmk⟩ := make_ints k hk
  have HI := Lib.hid (made_ints (w := w) hk (tabI_length k _) hZ)
  clear h hZ
  go_enter Try.func10, Try.ntmps10
  go_wp2
  go_loopw [5] (fun i wr => ∃ x : Nat, x ≤ k ∧ i = .int .i64 x ∧ OwnI wr w.heap.size (some ⟨w.heap.size, 0, none⟩) k k (tabI k fun j => if j < x then -1 else 0) ∧ w.grownBy wr none) (fun i _ => k - (intOf i).toNat)
  case atStart => exact ⟨0, by omega, rfl, by rw [tabI_congr (g := fun _ => 0) fun i _ => if_neg (by omega)]; exact HI.out, World.grownBy_alloc _ _ _⟩
  case round =>
    obtain ⟨x, hx, rfl, ho, hg⟩ := hrel
    have HO := Lib.hid ho
    have HG := Lib.hid hg
    by_cases hlt : x < k
    · obtain ⟨r, er, _, hc, hf⟩ := ho.at_ hlt
      obtain rfl : w.heap.size = r := by injection er with er; injection er
      clear ho hg er
      go_wp2
      go_roundw
      case rel => exact ⟨x + 1, by omega, by go_num, by
        have h2 := HO.out.put x (-1)
        rw [tabI_set] at h2
        rw [tabI_congr (g := fun j => if j = x then -1 else if j < x then -1 else 0) fun i hi => by
          by_cases e : i = x
          · rw [if_pos (by omega), if_pos e]
          · by_cases e2 : i < x
            · rw [if_pos (by omega), if_neg e, if_pos e2]
            · rw [if_neg (by omega), if_neg e, if_neg e2]]
        exact h2, grown_put HG.out (.inr (Nat.le_refl _)) _⟩
      case measure => simp [intOf]; omega
    · obtain rfl : k = x := by omega
      have HO2 : Hid (OwnI wr w.heap.size (some ⟨w.heap.size, 0, none⟩) k k (tabI k (posB ps 0))) := Lib.hid (by
        have h2 := HO.out
        rw [tabI_congr (g := posB ps 0) fun i hi => by rw [if_pos hi]; rfl] at h2
        exact h2)
      clear ho hg HO
      go_wp2
      go_loopw [6, 7] (fun i v7 wr2 => ∃ x : Nat, x ≤ k ∧ i = .int .i64 x ∧ OwnI wr2 w.heap.size (some ⟨w.heap.size, 0, none⟩) k k (tabI k (posB ps x)) ∧ Good ps x ∧ w.grownBy wr2 none) (fun i _ _ => k - (intOf i).toNat)
      case atStart => exact ⟨0, by omega, rfl, HO2.out, fun i hi => by omega, HG.out⟩
      case round =>
        obtain ⟨x, hx, rfl, ho, hgd, hg⟩ := hrel
        have HO := Lib.hid ho
        have HGD := Lib.hid hgd
        have HG3 := Lib.hid hg
        by_cases hlt : x < k
        · obtain ⟨b, off, rfl, _, hc⟩ := (H.out.grow hg).2.at_ hlt
          have HXL := Lib.hid (show x < ps.length by rw [HL.out]; exact hlt)
          clear hgd hg
          generalize hp : ps.getD x 0 = p at *
          have HP := Lib.hid hp
          clear hp
          by_cases h0 : 0 ≤ p
          · by_cases h1 : p < k
            · obtain ⟨q, rfl⟩ : ∃ q : Nat, p = q := ⟨p.toNat, by omega⟩
              obtain ⟨r, er, _, hc2, hf⟩ := ho.at_ (i := q) (by omega)
              obtain rfl : w.heap.size = r := by injection er with er; injection er
              rw [tabI_get _ _ _ (by omega)] at hc2
              have HPC := Lib.hid (posB_cases ps x q)
              have HST := Lib.hid (show posB ps (x + 1) q = (x : Int) by unfold posB; rw [if_pos HP.out])
              clear ho er
              by_cases h2 : 0 ≤ posB ps x q
              · have HF := Lib.hid (not_good HXL.out (by
                  rintro ⟨_, h3⟩
                  rcases HPC.out with ⟨e, _⟩ | ⟨_, j, hj, e⟩
                  · omega
                  · exact h3 j hj (by rw [HP.out, e])))
                generalize posB ps x q = v at *
                go_wp2
                go_ret2
                unfold GaveIntsB backE
                rw [HF.out]
                exact ⟨none, 0, rfl, OwnI.nil _ _, HG3.out⟩
              · have HN := Lib.hid (show ∀ j, j < x → ps.getD j 0 ≠ (q : Int) by
                  rcases HPC.out with ⟨_, h3⟩ | ⟨h3, _⟩
                  · exact h3
                  · omega)
                have HSET := Lib.hid (show (tabI k (posB ps x)).set q (x : Int) = tabI k (posB ps (x + 1)) by
                  rw [tabI_set]
                  refine tabI_congr fun j hj => ?_
                  show _ = if ps.getD x 0 = (j : Int) then (x : Int) else posB ps x j
                  rw [HP.out]
                  by_cases e : j = q
                  · subst e; rw [if_pos rfl, if_pos rfl]
                  · rw [if_neg e, if_neg (by omega)])
                generalize posB ps x q = v at *
                go_wp2
                go_roundw
                case rel => exact ⟨x + 1, by omega, by go_num, by rw [← HSET.out]; exact HO.out.put q x, fun i hi => by
                  by_cases e : i = x
                  · subst e
                    rw [HP.out, HL.out]
                    exact ⟨⟨by omega, by omega⟩, fun j hj => HN.out j hj⟩
                  · exact HGD.out i (by omega), grown_put HG3.out (.inr (Nat.le_refl _)) _⟩
                case measure => simp [intOf]; omega
            · have HF := Lib.hid (not_good HXL.out (by rw [HP.out, HL.out]; omega))
              clear ho
              go_wp2
              go_ret2
              unfold GaveIntsB backE
              rw [HF.out]
              exact ⟨none, 0, rfl, OwnI.nil _ _, HG3.out⟩
          · have HF := Lib.hid (not_good HXL.out (by rw [HP.out]; omega))
            clear ho
            go_wp2
            go_ret2
            unfold GaveIntsB backE
            rw [HF.out]
            exact ⟨none, 0, rfl, OwnI.nil _ _, HG3.out⟩
        · obtain rfl : k = x := by omega
          have HF := Lib.hid (show okBack ps = true from decide_eq_true (by rw [HL.out]; exact HGD.out))
          clear ho hgd hg
          go_wp2
          go_ret2
          unfold GaveIntsB backE
          rw [HF.out, if_pos rfl, tabI_length, HL.out]
          exact ⟨_, _, rfl, HO.out, HG3.out⟩
end Go.Proofs.Ytffobpbpdnamnaa
