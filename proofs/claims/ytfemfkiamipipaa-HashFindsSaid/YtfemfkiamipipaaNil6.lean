/-
  Layer 6: the walk of HashNil, whatever the table's calls do, as long as nobody's table tells nothing.
-/
import Derived.Test.YtfemfkiamipipaaPlays6
namespace Go.Proofs.Ytfemfkiamipipaa
open Go.ChangeShapes Go.WideShapes Go.ChangeAt Go.RowKit
set_option linter.unusedVariables false

/-- a table's cells as nobody made them (THIS LINE IS THE PROGRAM'S OWN: as its fields are). -/
def zeroT : Array Value := #[.pointer none, .slice none 0 0, .slice none 0 0]
/-- no table, or one that nobody made. -/
def Nobody (v : Value) (w : World) : Prop := v = .pointer none ∨ ∃ b, v = .pointer (some ⟨b, 0, none⟩) ∧ Box w b 56 zeroT
theorem Nobody.grow {v : Value} {w w' : World} (h : Nobody v w) (hg : w.grownBy w' none) : Nobody v w' := by
  rcases h with h | ⟨b, h1, h2⟩
  · exact .inl h
  · exact .inr ⟨b, h1, h2.grown hg (by simp)⟩
def GaveNone (w : World) (e : Ending) (w' : World) : Prop := ∃ A c, e = .returned (.slice A 0 c) ∧ w.grownBy w' none
structure NilSays : Prop where
  find : ∀ (v : Value) (a : Lab) (w : World), Nobody v w → okL a → Calls Try.prog 13 #[v, labO a] w (ToldG (.tuple #[.int .i64 0, .bool false]) w)
  add : ∀ (v : Value) (a : Lab) (w : World), Nobody v w → okL a → Calls Try.prog 15 #[v, labO a] w (ToldG (.tuple #[.int .i64 0, .int .i64 1]) w)
  len : ∀ (v : Value) (w : World), Nobody v w → Calls Try.prog 19 #[v] w (ToldG (.int .i64 0) w)
  room : ∀ (v : Value) (w : World), Nobody v w → Calls Try.prog 17 #[v] w (ToldG (.int .i64 0) w)
  longest : ∀ (v : Value) (w : World), Nobody v w → Calls Try.prog 20 #[v] w (ToldG (.int .i64 0) w)
  labels : ∀ (v : Value) (w : World), Nobody v w → Calls Try.prog 24 #[v] w (GaveNone w)
set_option maxRecDepth 100000 in
set_option maxHeartbeats 4000000 in
theorem hashNil_any {T : World → (Nat → Prop) → Addr → List Lab → Prop} (S : TabSays T) (N : NilSays) (ok on : Int) (os : ByteArray) (w : World) (ho : LabIn ⟨ok, on, os⟩) :
    Calls Try.prog 6 #[.agg #[.int .u8 ok, .int .i64 on, .string os]] w (ToldG (.bool true) w) := by
  have HK := Lib.hid (fun w' => knows6_any S w')
  have HNS := Lib.hid N
  have HO := Lib.hid ho
  obtain ⟨w1, hw1⟩ : ∃ w1, w1 = w.alloc (.cells #[.int .u8 ok, .int .i64 on, .string os] 39) := ⟨_, rfl⟩
  have HW1 := Lib.hid hw1
  have HG1 := Lib.hid (show w.grownBy w1 none by rw [hw1]; exact World.grownBy_alloc _ _ _)
  have HX := Lib.hid (show Box w1 w.heap.size 39 #[.int .u8 ok, .int .i64 on, .string os] by rw [hw1]; exact Box.fresh _ _ _)
  clear ho hw1 S N
  go_enter Try.func6, Try.ntmps6
  go_upto_region 1 with fail
  rw [← HW1.out]
  have x2 := HX.out.get 2
  by_cases h300 : os.size ≤ 300
  · have d1 : decide ((300 : Int) < (os.size : Int)) = false := by simp; omega
    have HOO := Lib.hid (show okL ⟨ok, on, os⟩ from ⟨HO.out.1, HO.out.2.1, HO.out.2.2.1, HO.out.2.2.2, by show os.size ≤ 1048576; omega⟩)
    have HFI := Lib.hid (fun v w' h => HNS.out.find v ⟨ok, on, os⟩ w' h HOO.out)
    have HAD := Lib.hid (fun v w' h => HNS.out.add v ⟨ok, on, os⟩ w' h HOO.out)
    have HN1 := Lib.hid (fun w' => num6_any 1 (by omega) w')
    go_wp2_with fail
    clear x2 d1
    go_loopw [3, 4, 5, 6, 7, 8] (fun v i _ _ _ _ wr => ∃ x : Nat, x ≤ 2 ∧ i = .int .i64 x ∧ Nobody v wr ∧ Box wr w.heap.size 39 #[.int .u8 ok, .int .i64 on, .string os] ∧ w.grownBy wr none) (fun _ i _ _ _ _ _ => 2 - (intOf i).toNat)
    case atStart => exact ⟨0, by omega, rfl, .inl rfl, HX.out, HG1.out⟩
    case round =>
      obtain ⟨x, hx, rfl, hno, hbx, hg⟩ := hrel
      have HNO := Lib.hid hno
      have HBX := Lib.hid hbx
      have HG := Lib.hid hg
      clear hno hbx hg
      by_cases hlt : x < 2
      · have e1 : decide ((x : Int) < 2) = true := by simp; omega
        have x0 := HBX.out.get 0
        have x1 := HBX.out.get 1
        have x2 := HBX.out.get 2
        go_wp2_with fail
        refine (HFI.out _ _ HNO.out).mono ?_
        rintro e w3 ⟨rfl, hg⟩
        have HG3 := Lib.hid (grown_join HG.out hg (.inr (by simp)))
        have HN3 := Lib.hid (HNO.out.grow hg)
        have HB3 := Lib.hid (HBX.out.grown hg (by simp))
        clear hg x0 x1 x2
        have x0 := HB3.out.get 0
        have x1 := HB3.out.get 1
        have x2 := HB3.out.get 2
        go_wp2_with fail
        refine (HAD.out _ _ HN3.out).mono ?_
        rintro e w4 ⟨rfl, hg⟩
        have HG4 := Lib.hid (grown_join HG3.out hg (.inr (by simp)))
        have HN4 := Lib.hid (HN3.out.grow hg)
        have HB4 := Lib.hid (HB3.out.grown hg (by simp))
        clear hg x0 x1 x2
        go_wp2_with fail
        refine (HNS.out.len _ _ HN4.out).mono ?_
        rintro e w5 ⟨rfl, hg⟩
        have HG5 := Lib.hid (grown_join HG4.out hg (.inr (by simp)))
        have HN5 := Lib.hid (HN4.out.grow hg)
        have HB5 := Lib.hid (HB4.out.grown hg (by simp))
        clear hg
        go_wp2_with fail
        refine (HNS.out.room _ _ HN5.out).mono ?_
        rintro e w6 ⟨rfl, hg⟩
        have HG6 := Lib.hid (grown_join HG5.out hg (.inr (by simp)))
        have HN6 := Lib.hid (HN5.out.grow hg)
        have HB6 := Lib.hid (HB5.out.grown hg (by simp))
        clear hg
        go_wp2_with fail
        refine (HNS.out.longest _ _ HN6.out).mono ?_
        rintro e w7 ⟨rfl, hg⟩
        have HG7 := Lib.hid (grown_join HG6.out hg (.inr (by simp)))
        have HN7 := Lib.hid (HN6.out.grow hg)
        have HB7 := Lib.hid (HB6.out.grown hg (by simp))
        clear hg
        go_wp2_with fail
        refine (HNS.out.labels _ _ HN7.out).mono ?_
        rintro e w8 ⟨A, c, rfl, hg⟩
        have HG8 := Lib.hid (grown_join HG7.out hg (.inr (by simp)))
        have HB8 := Lib.hid (HB7.out.grown hg (by simp))
        clear hg
        go_wp2_with fail
        refine (HN1.out _).mono ?_
        rintro e w9 ⟨rfl, rfl⟩
        go_wp2_with fail
        go_roundw
        case rel => exact ⟨x + 1, by omega, by go_num, .inr ⟨_, rfl, Box.fresh _ _ _⟩, HB8.out.alloc _, grown_alloc HG8.out _⟩
        case measure => simp [intOf]; omega
      · obtain rfl : x = 2 := by omega
        have e1 : decide (((2 : Nat) : Int) < 2) = false := by decide
        go_wp2_with fail
        refine (HK.out _).mono ?_
        rintro e w3 ⟨rfl, hg⟩
        have HG3 := Lib.hid (grown_join HG.out hg (.inr (by simp)))
        clear hg
        go_wp2_with fail
        go_ret
        exact ⟨rfl, HG3.out⟩
  · have d1 : decide ((300 : Int) < (os.size : Int)) = true := by simp; omega
    go_wp2_with fail
    refine (HK.out _).mono ?_
    rintro e w3 ⟨rfl, hg⟩
    have HG3 := Lib.hid (grown_join HG1.out hg (.inr (by simp)))
    clear hg
    go_wp2_with fail
    go_ret
    exact ⟨rfl, HG3.out⟩
end Go.Proofs.Ytfemfkiamipipaa
