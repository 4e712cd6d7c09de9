/-
  WHAT THE WALKS OF BitsBytes AND BitsBack SHARE: From of any bytes; bytes as a string.
-/
import Derived.Test.YtfnnnbpceeeecaaDoorKnows2
import Derived.Deep.RegionHeld3
namespace Go.Proofs.YtfnnnbpceeeecaaDoor
open Go.ChangeShapes Go.WideShapes Go.ChangeAt Go.RowKit
set_option linter.unusedVariables false

theorem str_new {w : World} {A : Option Addr} {n c : Nat} {l : List Bool} {base : Nat} (h : w.ownsRow base 5 1 (.slice A n c) n (byteV (byteL l) n)) : (convert 39 9 (.slice A n c)).run Tryd.prog w = .ok (.string (strU (byteL l) n)) w :=
  str_of A n c (byteL l) _ w (byteV_sees h) (fun k _ => byteL_lt _ _)
theorem own_grow {w w' : World} {base : Nat} {e : TypeId} {size n : Nat} {v : Value} {xs : List Value} (h : w.ownsRow base e size v n xs) (hg : w.grownBy w' none) : w'.ownsRow base e size v n xs := h.kept hg (by cases v.ownBlock <;> simp)

def Here (w : World) : Prop := w.os = w.os
theorem here (w : World) : Here w := rfl
/-- what From and its reference make of any bytes. -/
def FromAny (bs : List Nat) (x : Int) (w : World) (e : Ending) (w' : World) : Prop :=
  (FitsI bs x ∧ ∃ g A k c, e = .returned (.tuple #[.pointer (some ⟨g, 0, none⟩), .bool true]) ∧ Mask w' 0 g A k c (fromL bs x.toNat) ∧ w.grownBy w' none) ∨
  (¬ FitsI bs x ∧ e = .returned (.tuple #[.pointer none, .bool false]) ∧ w.grownBy w' none)
theorem from_any (A : Option Addr) (m c : Nat) (bs : List Nat) (x : Int) (hx : I64 x) (hm : m ≤ 1000000) (w : World) (h : Octets w w.heap.size A m bs) :
    Calls Tryd.prog 18 #[.slice A m c, .int .i64 x] w (FromAny bs x w) := by
  by_cases hok : 0 ≤ x ∧ x ≤ 2097152 ∧ bs.length = (x.toNat + 7) / 8
  · obtain ⟨N, rfl⟩ : ∃ N : Nat, x = N := ⟨x.toNat, by omega⟩
    by_cases hf : Fits bs N
    · exact (from_yes A m c bs N w h hf).mono fun e w' ⟨g, A', k, c', h1, h2, h3⟩ => .inl ⟨⟨by omega, hf⟩, g, A', k, c', h1, h2.lower (Nat.zero_le _), h3⟩
    · refine (from_no2 A m c bs N (by omega) _ w h (by simpa using hok.2.2) hf).mono fun e w' ⟨h1, h2⟩ => .inr ⟨fun hc => hf hc.2, h1, ?_⟩
      subst h2
      exact grown_refl _ _
  · refine (from_no1 A m c bs x hx (by omega) _ w h hok).mono fun e w' ⟨h1, h2⟩ => .inr ⟨fun hc => hok ⟨hc.1, ?_, hc.2.2.1⟩, h1, ?_⟩
    · have := hc.2.1; omega
    · subst h2
      exact grown_refl _ _
def RefAny (bs : List Nat) (x : Int) (w : World) (e : Ending) (w' : World) : Prop :=
  (FitsI bs x ∧ ∃ A c, e = .returned (.tuple #[.slice A x.toNat c, .bool true]) ∧ OwnB w' 0 A x.toNat c (bitB bs) ∧ w.grownBy w' none) ∨
  (¬ FitsI bs x ∧ e = .returned (.tuple #[.slice none 0 0, .bool false]) ∧ w.grownBy w' none)
theorem refFrom_any (A : Option Addr) (m c : Nat) (bs : List Nat) (x : Int) (hx : I64 x) (hm : m ≤ 1000000) (w : World) (h : Octets w w.heap.size A m bs) :
    Calls Tryd.prog 19 #[.slice A m c, .int .i64 x] w (RefAny bs x w) := by
  by_cases hok : 0 ≤ x ∧ x ≤ 2097152 ∧ bs.length = (x.toNat + 7) / 8
  · obtain ⟨N, rfl⟩ : ∃ N : Nat, x = N := ⟨x.toNat, by omega⟩
    by_cases hf : Fits bs N
    · exact (refFrom_yes A m c bs N w h hf).mono fun e w' ⟨A', c', h1, h2, h3⟩ => .inl ⟨⟨by omega, hf⟩, A', c', h1, h2.lower (Nat.zero_le _), h3⟩
    · exact (refFrom_no2 A m c bs N (by omega) w h (by simpa using hok.2.2) hf).mono fun e w' ⟨h1, h2⟩ => .inr ⟨fun hc => hf hc.2, h1, h2⟩
  · refine (refFrom_no1 A m c bs x hx (by omega) _ w h hok).mono fun e w' ⟨h1, h2⟩ => .inr ⟨fun hc => hok ⟨hc.1, ?_, hc.2.2.1⟩, h1, h2⟩
    have := hc.2.1; omega
end Go.Proofs.YtfnnnbpceeeecaaDoor
