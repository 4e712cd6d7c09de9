/-
  Layer 5: the program's packed, Right, Parts.
-/
import Derived.Test.YtfemfkiamipipaaCut5
namespace Go.Proofs.Ytfemfkiamipipaa
open Go.ChangeShapes Go.WideShapes Go.ChangeAt Go.RowKit
set_option linter.unusedVariables false

/-! ### plain -/
/-- are these bytes n right parts, and nothing else? -/
def packedE : Nat → List UInt8 → Bool
  | 0, l => l.isEmpty
  | k + 1, l => match cutE l with
    | none => false
    | some p => packedE k p.2
theorem packed_iff : ∀ (k f : Nat) (l : List UInt8), k ≤ f → (packedE k l = true ↔ ∃ out, parseL f l = some out ∧ out.length = k)
  | 0, f, l, _ => by
    unfold packedE
    cases l with
    | nil =>
      refine ⟨fun _ => ⟨[], ?_, rfl⟩, fun _ => rfl⟩
      cases f <;> rfl
    | cons c t =>
      refine ⟨fun h => (by cases h), fun ⟨out, h1, h2⟩ => ?_⟩
      obtain rfl := List.eq_nil_of_length_eq_zero h2
      cases f with
      | zero => cases h1
      | succ f =>
        rw [parse_cut f _ (List.cons_ne_nil _ _)] at h1
        split at h1
        · cases h1
        · obtain ⟨_, _, h3⟩ := map_some h1
          cases h3
  | k + 1, 0, l, h => by omega
  | k + 1, f + 1, l, h => by
    unfold packedE
    cases l with
    | nil =>
      refine ⟨fun h => (by cases h), fun ⟨out, h1, h2⟩ => ?_⟩
      have : out = [] := by injection h1 with h1; exact h1.symm
      rw [this] at h2; cases h2
    | cons c t =>
      rw [parse_cut f _ (List.cons_ne_nil _ _)]
      cases hc : cutE (c :: t) with
      | none =>
        refine ⟨fun h => (by cases h), fun ⟨out, h1, _⟩ => by cases h1⟩
      | some p =>
        dsimp only
        rw [packed_iff k f p.2 (by omega)]
        refine ⟨fun ⟨o, h1, h2⟩ => ⟨p.1 :: o, by rw [h1]; rfl, by simp [h2]⟩, fun ⟨out, h1, h2⟩ => ?_⟩
        obtain ⟨o, h3, h4⟩ := map_some h1
        exact ⟨o, h3, by rw [← h4] at h2; simpa using h2⟩
theorem right_two (n : Int) (s : ByteArray) : rightE ⟨2, n, s⟩ = (decide (1 ≤ n) && decide (n ≤ 4) && packedE n.toNat s.data.toList) := by
  have hb : ∀ b c : Bool, (b = true ↔ c = true) → b = c := fun b c h => by cases b <;> cases c <;> simp_all
  apply hb
  rw [Bool.and_eq_true, Bool.and_eq_true, decide_eq_true_eq, decide_eq_true_eq]
  unfold rightE
  rw [parts_two]
  constructor
  · intro h
    cases hp : parseL 4 s.data.toList with
    | none => rw [hp] at h; cases h
    | some out =>
      rw [hp] at h
      dsimp only at h
      by_cases hc : out ≠ [] ∧ n = out.length
      · have hl := parse_le 4 _ _ hp
        have h0 : 0 < out.length := by
          cases out with
          | nil => exact absurd rfl hc.1
          | cons _ _ => simp
        refine ⟨⟨by omega, by omega⟩, (packed_iff n.toNat 4 _ (by omega)).2 ⟨out, hp, by omega⟩⟩
      · rw [if_neg hc] at h; cases h
  · rintro ⟨⟨h1, h2⟩, h3⟩
    obtain ⟨out, h4, h5⟩ := (packed_iff n.toNat 4 _ (by omega)).1 h3
    rw [h4]
    dsimp only
    rw [if_pos ⟨by rintro rfl; simp at h5; omega, by omega⟩]; rfl
theorem right_zero (n : Int) (s : ByteArray) : rightE ⟨0, n, s⟩ = decide (s = noS) := by
  by_cases h : s = noS
  · rw [decide_eq_true h]; unfold rightE; rw [parts_self (.inl ⟨rfl, h⟩)]; rfl
  · rw [decide_eq_false h]; unfold rightE; rw [parts_none (by rintro (⟨_, h2⟩ | ⟨h2, _⟩); exact h h2; exact absurd h2 (show ¬ (0 : Int) = 1 by decide)) (show ¬ (0 : Int) = 2 by decide)]; rfl
theorem right_one (n : Int) (s : ByteArray) : rightE ⟨1, n, s⟩ = (decide (n = 0) && decide (s.size ≤ 32)) := by
  by_cases h : n = 0 ∧ s.size ≤ 32
  · rw [decide_eq_true h.1, decide_eq_true h.2]; unfold rightE; rw [parts_self (.inr ⟨rfl, h⟩)]; rfl
  · have e : (decide (n = 0) && decide (s.size ≤ 32)) = false := by
      cases hb : (decide (n = 0) && decide (s.size ≤ 32))
      · rfl
      · rw [Bool.and_eq_true, decide_eq_true_eq, decide_eq_true_eq] at hb; exact absurd hb h
    rw [e]; unfold rightE; rw [parts_none (by rintro (⟨h2, _⟩ | ⟨_, h2⟩); exact absurd h2 (show ¬ (1 : Int) = 0 by decide); exact h h2) (show ¬ (1 : Int) = 2 by decide)]; rfl
theorem right_more {k n : Int} {s : ByteArray} (h0 : k ≠ 0) (h1 : k ≠ 1) (h2 : k ≠ 2) : rightE ⟨k, n, s⟩ = false := by
  unfold rightE; rw [parts_none (by rintro (⟨h, _⟩ | ⟨h, _⟩); exact h0 h; exact h1 h) h2]; rfl
/-- one part more. -/
theorem Left.more {b L r : List UInt8} {o : List Lab} {a : Lab} (h : Left b o L) (ho : o.length < 4) (hc : cutE L = some (a, r)) : Left b (o ++ [a]) r := by
  have hl : L ≠ [] := by rintro rfl; cases hc
  refine ⟨by rw [List.length_append]; simp; omega, ?_⟩
  obtain ⟨f, hf⟩ : ∃ f, 4 - o.length = f + 1 := ⟨3 - o.length, by omega⟩
  rw [h.2, hf, parse_cut f L hl, hc, List.length_append, List.length_singleton, show 4 - (o.length + 1) = f by omega]
  dsimp only
  cases parseL f r <;> simp
theorem Left.on {b L : List UInt8} {o out : List Lab} (h : Left b o L) (hp : parseL 4 b = some out) (hl : L ≠ []) : o.length < 4 ∧ ∃ a r, cutE L = some (a, r) := by
  have h1 := h.1
  have h2 := h.2
  rw [hp] at h2
  by_cases h4 : o.length = 4
  · rw [h4] at h2
    cases L with
    | nil => exact absurd rfl hl
    | cons c t => cases h2
  · refine ⟨by omega, ?_⟩
    obtain ⟨f, hf⟩ : ∃ f, 4 - o.length = f + 1 := ⟨3 - o.length, by omega⟩
    rw [hf, parse_cut f L hl] at h2
    cases hc : cutE L with
    | none => rw [hc] at h2; cases h2
    | some p => exact ⟨p.1, p.2, rfl⟩

/-! ### walks -/
theorem ownCut_none {s : ByteArray} (w : World) (hs : s.size ≤ 1048576) (h : cutE s.data.toList = none) : Calls Try.prog 41 #[.string s] w (ToldG (.tuple #[.agg #[.int .u8 0, .int .i64 0, .string ⟨#[]⟩], .string ⟨#[]⟩, .bool false]) w) := by
  have h1 := ownCut_any s w hs
  rw [h] at h1
  exact h1
theorem ownCut_some {s as' : ByteArray} {k n : Int} {r : List UInt8} (w : World) (hs : s.size ≤ 1048576) (h : cutE s.data.toList = some (⟨k, n, as'⟩, r)) : Calls Try.prog 41 #[.string s] w (ToldG (.tuple #[.agg #[.int .u8 k, .int .i64 n, .string as'], .string (txt r), .bool true]) w) := by
  have h1 := ownCut_any s w hs
  rw [h] at h1
  exact h1
theorem cut_size {s : ByteArray} {a : Lab} {r : List UInt8} (h : cutE s.data.toList = some (a, r)) : (txt r).size + 2 ≤ s.size := by
  have := cut_less h
  rw [data_size] at this
  rw [txt_size]; exact this
set_option maxRecDepth 100000 in
set_option maxHeartbeats 2000000 in
theorem ownPacked_any (s : ByteArray) (n : Nat) (w : World) (hs : s.size ≤ 1048576) (hn : n ≤ 4) : Calls Try.prog 38 #[.string s, .int .i64 (n : Int)] w (ToldG (.bool (packedE n s.data.toList)) w) := by
  go_enter Try.func38, Try.ntmps38
  go_wp2_with fail
  go_loopw [0, 9] (fun v0 v9 wr => ∃ (x : Nat) (r : ByteArray), x ≤ n ∧ v9 = .int .i64 (x : Int) ∧ v0 = .string r ∧ r.size ≤ 1048576 ∧ packedE n s.data.toList = packedE (n - x) r.data.toList ∧ w.grownBy wr none) (fun _ v9 _ => n - (intOf v9).toNat)
  case atStart => exact ⟨0, s, by omega, rfl, rfl, hs, rfl, grown_refl _ _⟩
  case round =>
    obtain ⟨x, r, hx, rfl, rfl, hr, hp, hg⟩ := hrel
    have HG := Lib.hid hg
    have HP := Lib.hid hp
    clear hg hp
    by_cases hlt : x < n
    · obtain ⟨f, hf⟩ : ∃ f, n - x = f + 1 := ⟨n - x - 1, by omega⟩
      rw [hf] at HP
      have HF := Lib.hid hf
      clear hf
      cases hc : cutE r.data.toList with
      | none =>
        have HC := Lib.hid (fun w' => ownCut_none w' hr hc)
        have HV := Lib.hid (show packedE n s.data.toList = false by rw [HP.out]; unfold packedE; rw [hc])
        clear hc
        go_wp2_with fail
        refine (HC.out _).mono ?_
        rintro e w2 ⟨rfl, hg⟩
        have HG2 := Lib.hid (grown_join HG.out hg (.inr (by simp)))
        clear hg
        go_wp2_with fail
        go_ret
        exact toldG_eq (by rw [HV.out]; rfl) (grown_alloc HG2.out _)
      | some p =>
        obtain ⟨⟨ak, an, as'⟩, q⟩ := p
        have HC := Lib.hid (fun w' => ownCut_some w' hr hc)
        have HV := Lib.hid (show packedE n s.data.toList = packedE f (txt q).data.toList by rw [HP.out, txt_data]; show (match cutE r.data.toList with | none => false | some p => packedE f p.2) = _; rw [hc])
        have HZ := Lib.hid (cut_size hc)
        clear hc
        generalize txt q = t at *
        go_wp2_with fail
        refine (HC.out _).mono ?_
        rintro e w2 ⟨rfl, hg⟩
        have HG2 := Lib.hid (grown_join HG.out hg (.inr (by simp)))
        clear hg
        go_wp2_with fail
        go_roundw
        case rel => exact ⟨x + 1, t, by omega, by go_num, rfl, by have := HZ.out; omega, by rw [HV.out, show n - (x + 1) = f by have := HF.out; omega], grown_alloc HG2.out _⟩
        case measure => simp [intOf]; omega
    · obtain rfl : n = x := by omega
      have HV := Lib.hid (show packedE n s.data.toList = r.data.toList.isEmpty by rw [HP.out, Nat.sub_self]; rfl)
      have hte : r.toList = r.data.toList := Lib.toList_data r
      by_cases he : r.data.toList = []
      · have d1 : r.toList = [] := by rw [hte]; exact he
        have d2 : r.toList.isEmpty = true := by rw [d1]; rfl
        rw [he] at HV
        clear he hte
        go_wp2_with fail
        go_ret
        exact toldG_eq (by rw [HV.out]; rfl) HG.out
      · have d1 : ¬ r.toList = [] := by rw [hte]; exact he
        have d2 : r.toList.isEmpty = false := by
          cases h : r.toList with
          | nil => exact absurd h d1
          | cons _ _ => rfl
        have HW := Lib.hid (show r.data.toList.isEmpty = false by rw [← hte]; exact d2)
        rw [HW.out] at HV
        clear he hte
        go_wp2_with fail
        go_ret
        exact toldG_eq (by rw [HV.out]; rfl) HG.out
end Go.Proofs.Ytfemfkiamipipaa
