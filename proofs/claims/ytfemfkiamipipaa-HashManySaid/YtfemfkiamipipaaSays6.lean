/-
  Layer 6: what the walks ask of the program's own table, whatever holds it (T); the law package's num, knows.
-/
import Derived.Test.YtfemfkiamipipaaLong6
import Derived.Test.YtfemfkiamipipaaCut5
import Derived.Test.YtfemfkiamipipaaRight5
namespace Go.Proofs.Ytfemfkiamipipaa
open Go.ChangeShapes Go.WideShapes Go.ChangeAt Go.RowKit
set_option linter.unusedVariables false

/-- a table is told that has just those labels, or an error. -/
def MadeO (T : World → (Nat → Prop) → Addr → List Lab → Prop) (r : List Lab × Nat) (w : World) (e : Ending) (w' : World) : Prop :=
  (r.2 = 0 ∧ ∃ q G, e = .returned (.tuple #[.pointer (some q), .int .i64 0]) ∧ T w' G q r.1 ∧ (∀ x, G x → w.heap.size ≤ x ∧ x < w'.heap.size) ∧ w.grownBy w' none) ∨
  (r.2 ≠ 0 ∧ e = .returned (.tuple #[.pointer none, .int .i64 r.2]) ∧ w.grownBy w' none)
/-- two numbers are told, as Add does; the table has become that. -/
def AddedO (T : World → (Nat → Prop) → Addr → List Lab → Prop) (F : Nat → Prop) (q : Addr) (r : List Lab × Nat × Nat) (w : World) (e : Ending) (w' : World) : Prop :=
  e = .returned (.tuple #[.int .i64 r.2.1, .int .i64 r.2.2]) ∧ T w' (NewB F w w') q r.1 ∧ Spare F w w'
structure TabSays (T : World → (Nat → Prop) → Addr → List Lab → Prop) : Prop where
  keep : ∀ {w w' : World} {F G : Nat → Prop} {q : Addr} {l : List Lab}, T w F q l → Spare G w w' → (∀ x, F x → ¬ G x) → T w' F q l
  more : ∀ {w : World} {F G : Nat → Prop} {q : Addr} {l : List Lab}, T w F q l → (∀ x, F x → G x) → T w G q l
  new : ∀ (A : Option Addr) (n c : Nat) (l : List Lab) (w : World), Labs w w.heap.size A n l → n ≤ 1048576 → (∀ i, i < n → okL (l.getD i noLab)) → Calls Try.prog 9 #[.slice A n c] w (MadeO T (newE [] l) w)
  find : ∀ (F : Nat → Prop) (q : Addr) (l : List Lab) (a : Lab) (w : World), T w F q l → okL a → Calls Try.prog 13 #[.pointer (some q), labO a] w (ToldG (findV (numOf l a)) w)
  add : ∀ (F : Nat → Prop) (q : Addr) (l : List Lab) (a : Lab) (w : World), T w F q l → okL a → Calls Try.prog 15 #[.pointer (some q), labO a] w (AddedO T F q (addE l a) w)
  len : ∀ (F : Nat → Prop) (q : Addr) (l : List Lab) (w : World), T w F q l → Calls Try.prog 19 #[.pointer (some q)] w (ToldG (.int .i64 l.length) w)
  room : ∀ (F : Nat → Prop) (q : Addr) (l : List Lab) (w : World), T w F q l → Calls Try.prog 17 #[.pointer (some q)] w (ToldG (.int .i64 (roomE l.length)) w)
  longest : ∀ (F : Nat → Prop) (q : Addr) (l : List Lab) (w : World), T w F q l → Calls Try.prog 20 #[.pointer (some q)] w (ToldG (.int .i64 (longE (roomE l.length) (hsOf l) l.length)) w)
  labels : ∀ (F : Nat → Prop) (q : Addr) (l : List Lab) (w : World), T w F q l → Calls Try.prog 24 #[.pointer (some q)] w (GaveLabs 38 l w)
section
variable {T : World → (Nat → Prop) → Addr → List Lab → Prop} (S : TabSays T)
include S
theorem TabSays.grow {w w' : World} {F : Nat → Prop} {q : Addr} {l : List Lab} (h : T w F q l) (hg : w.grownBy w' none) : T w' F q l := S.keep (G := fun _ => False) h (Spare.of_grown hg) (fun _ _ h => h)
end
theorem num6_any (e : Nat) (he : e ≤ 9) (w : World) : Calls Try.prog 12 #[.int .i64 (e : Int)] w (fun en w' => en = .returned (.int .i64 (e : Int)) ∧ w' = w) := by
  have hw : IntKind.i64.wrap (e : Int) = (e : Int) := IntWalk.i64_in _ (by omega)
  go_enter Try.func12, Try.ntmps12
  go_wp2
  go_ret
  exact ⟨rfl, rfl⟩
theorem int_right (n : Int) : rightE ⟨0, n, noS⟩ = true := by rw [right_zero]; exact decide_eq_true rfl
theorem add_int {l : List Lab} {n : Int} (hn : numOf l ⟨0, n, noS⟩ = none) (hl : l.length < 4096) : addE l ⟨0, n, noS⟩ = (l ++ [⟨0, n, noS⟩], l.length, 0) := by
  rw [add_right (int_right n), hn, if_neg (by simp), if_neg (by omega)]
def kn6 : List Lab := [⟨0, 5, noS⟩, ⟨0, 9, noS⟩]
theorem kn6_new : newE [] kn6 = (kn6, 0) := by
  have h1 : numOf [] ⟨0, 5, noS⟩ = none := rfl
  have h2 : numOf [⟨0, 5, noS⟩] ⟨0, 9, noS⟩ = none := num_none (fun i hi => by
    obtain rfl : i = 0 := by simpa using hi
    intro h
    injection h with _ h
    exact absurd h (by decide))
  unfold kn6
  rw [newE, add_int h1 (by simp)]
  show (if (0 : Nat) = 0 then newE ([] ++ [⟨0, 5, noS⟩]) [⟨0, 9, noS⟩] else _) = _
  rw [if_pos rfl, List.nil_append, newE, add_int h2 (by simp)]
  rfl
theorem kn6_num : numOf kn6 ⟨0, 9, noS⟩ = some 1 := num_some (i := 1) (by simp [kn6]) rfl (fun k hk => by
  obtain rfl : k = 0 := by omega
  intro h
  injection h with _ h
  exact absurd h (by decide))
theorem kn6_ok : ∀ i, i < 2 → okL (kn6.getD i noLab) := by
  intro i hi
  match i, hi with
  | 0, _ => exact ⟨by decide, by decide, by decide, by decide, by decide⟩
  | 1, _ => exact ⟨by decide, by decide, by decide, by decide, by decide⟩
theorem kn6_labs (w : World) : Labs (w.alloc (.cells #[.int .u8 0, .int .i64 5, .string noS, .int .u8 0, .int .i64 9, .string noS] 38)) (w.alloc (.cells #[.int .u8 0, .int .i64 5, .string noS, .int .u8 0, .int .i64 9, .string noS] 38)).heap.size (some ⟨w.heap.size, 0, none⟩) 2 kn6 :=
  OwnL.labs (base := w.heap.size) (e := 38) (c := 2) ⟨rfl, World.ownsRow_lit w #[.int .u8 0, .int .i64 5, .string noS, .int .u8 0, .int .i64 9, .string noS] _ (Nat.le_refl _) (by unfold maxLen; omega) rfl⟩
theorem int6_any (n : Int) (w : World) : Calls Try.prog 25 #[.int .i64 n] w (ToldG (.agg #[.int .u8 0, .int .i64 n, .string noS]) w) := by
  refine (ownInt_any n w).mono ?_
  rintro e w' ⟨rfl, rfl⟩
  exact ⟨rfl, World.grownBy_alloc _ _ _⟩
theorem MadeO.ok {T : World → (Nat → Prop) → Addr → List Lab → Prop} {l : List Lab} {w w' : World} {e : Ending} (h : MadeO T (l, 0) w e w') :
    ∃ q G, e = .returned (.tuple #[.pointer (some q), .int .i64 0]) ∧ T w' G q l ∧ (∀ x, G x → w.heap.size ≤ x ∧ x < w'.heap.size) ∧ w.grownBy w' none := by
  rcases h with ⟨_, h⟩ | ⟨h, _⟩
  · exact h
  · exact absurd rfl h
set_option maxRecDepth 100000 in
set_option maxHeartbeats 2000000 in
theorem knows6_any {T : World → (Nat → Prop) → Addr → List Lab → Prop} (S : TabSays T) (w : World) : Calls Try.prog 8 #[] w (ToldG (.bool true) w) := by
  have HN := Lib.hid (fun A c w' h => S.new A 2 c kn6 w' h (by omega) kn6_ok)
  rw [kn6_new] at HN
  have HI := Lib.hid (fun n w' => int6_any n w')
  have HNU := Lib.hid (fun w' => num6_any 0 (by omega) w')
  have HL := Lib.hid kn6_labs
  have HF := Lib.hid (fun F q w' h => S.find F q kn6 ⟨0, 9, noS⟩ w' h ⟨by decide, by decide, by decide, by decide, by decide⟩)
  rw [kn6_num] at HF
  have HRM := Lib.hid (fun F q w' h => show Calls Try.prog 17 #[.pointer (some q)] w' (ToldG (.int .i64 8) w') from S.room F q kn6 w' h)
  have HLE := Lib.hid (fun F q w' h => show Calls Try.prog 19 #[.pointer (some q)] w' (ToldG (.int .i64 2) w') from S.len F q kn6 w' h)
  have HS := Lib.hid S
  clear S
  go_enter Try.func8, Try.ntmps8
  go_wp2_with fail
  refine (HI.out 5 _).mono ?_
  rintro e w1 ⟨rfl, hg⟩
  have HG1 := Lib.hid hg
  clear hg
  go_wp2_with fail
  refine (HI.out 9 _).mono ?_
  rintro e w2 ⟨rfl, hg⟩
  have HG2 := Lib.hid (grown_join HG1.out hg (.inr (by simp)))
  clear hg
  go_wp2_with fail
  refine (HN.out _ 2 _ (HL.out w2)).mono ?_
  intro e w3 h3
  obtain ⟨q, G, rfl, ht, _, hg⟩ := h3.ok
  have HG3 := Lib.hid (grown_join (grown_alloc HG2.out _) hg (.inr (by simp)))
  have HT3 := Lib.hid ht
  clear hg ht h3
  go_wp2_with fail
  refine (HI.out 9 _).mono ?_
  rintro e w4 ⟨rfl, hg⟩
  have HG4 := Lib.hid (grown_join HG3.out hg (.inr (by simp)))
  have HT4 := Lib.hid (HS.out.grow HT3.out hg)
  clear hg
  go_wp2_with fail
  refine (HF.out _ _ _ HT4.out).mono ?_
  rintro e w5 ⟨rfl, hg⟩
  have HG5 := Lib.hid (grown_join HG4.out hg (.inr (by simp)))
  have HT5 := Lib.hid (HS.out.grow HT4.out hg)
  clear hg
  dsimp only [findV]
  go_wp2_with fail
  refine (HNU.out _).mono ?_
  rintro e w6 ⟨rfl, rfl⟩
  go_wp2_with fail
  refine (HRM.out _ _ _ HT5.out).mono ?_
  rintro e w7 ⟨rfl, hg⟩
  have HG7 := Lib.hid (grown_join HG5.out hg (.inr (by simp)))
  have HT7 := Lib.hid (HS.out.grow HT5.out hg)
  clear hg
  go_wp2_with fail
  refine (HLE.out _ _ _ HT7.out).mono ?_
  rintro e w8 ⟨rfl, hg⟩
  have HG8 := Lib.hid (grown_join HG7.out hg (.inr (by simp)))
  clear hg
  go_wp2_with fail
  go_ret
  exact ⟨rfl, HG8.out⟩
end Go.Proofs.Ytfemfkiamipipaa
