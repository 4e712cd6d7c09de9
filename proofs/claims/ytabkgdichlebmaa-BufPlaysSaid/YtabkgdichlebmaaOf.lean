/-
  bits.Of: contract.
-/
import Derived.Test.YtabkgdichlebmaaFill
import Derived.RegionTactic
import Derived.BigRegion
import Derived.BigQuiet
import Derived.Deep.QuietTactic
import Derived.ChangeAlike
namespace Go.Proofs.Ytabkgdichlebmaa
open Go.ChangeShapes Go.WideShapes Go.ChangeAt Go.RowKit
set_option linter.unusedVariables false

/-- the slice at A holds these truths. -/
def Bools (w : World) (B : Nat) (A : Option Addr) (n : Nat) (l : List Bool) : Prop := l.length = n ∧ Sees w B A n fun k => .bool (l.getD k false)
theorem Bools.keep {w w' : World} {B : Nat} {A : Option Addr} {n : Nat} {l : List Bool} (h : Bools w B A n l) (hb : Below B w w') : Bools w' B A n l := ⟨h.1, h.2.below hb⟩
theorem Bools.drewN {w : World} {B : Nat} {A : Option Addr} {n : Nat} {l : List Bool} (h : Bools w B A n l) (m : Nat) : Bools (w.drewN m) B A n l := h
theorem Bools.more {w : World} {B B' : Nat} {A : Option Addr} {n : Nat} {l : List Bool} (h : Bools w B A n l) (hB : B ≤ B') : Bools w B' A n l := ⟨h.1, h.2.more hB⟩
theorem cutN_of (n : Nat) (h : n ≤ 2097152) : cutN (n : Int) = n := by unfold cutN; omega
theorem none_head (l : List Bool) : none_ l.length = headL l 0 := (headL_zero l).symm

theorem one_bit (s : Nat) (h : s < 64) : IntKind.u64.wrap (2 ^ s) = ((2 ^ s : Nat) : Int) := by
  have h2 : 2 ^ s < 2 ^ 64 := Nat.pow_lt_pow_right (by omega) h
  have e : (2 : Int) ^ s = ((2 ^ s : Nat) : Int) := by simp
  rw [e, IntKind.wrap_u64]
  generalize 2 ^ s = y at *
  omega
theorem head_step {w : World} {B g r k c x : Nat} {l : List Bool} (hm : Mask w B g (some ⟨r, 0, none⟩) k c (headL l x)) (hx : x < l.length) (hb : l.getD x false = true)
    (u : Int) (hu : u = bits BinOp.or IntKind.u64 ((word (headL l x) (x / 64) : Nat) : Int) (IntKind.u64.wrap (2 ^ (x % 64)))) :
    Mask (w.setCell ⟨r, x / 64, none⟩ (.int .u64 u)) B g (some ⟨r, 0, none⟩) k c (headL l (x + 1)) := by
  have h2 : 2 ^ (x % 64) < 2 ^ 64 := Nat.pow_lt_pow_right (by omega) (by omega)
  have hv : u = ((word (headL l (x + 1)) (x / 64) : Nat) : Int) := by
    rw [hu, word_head_at l x hb, one_bit _ (by omega), u64_or_nat _ _ (word_lt _ _) h2]
  rw [hv]
  refine hm.put (by rw [headL_length, headL_length]) ?_ fun i _ hi => word_head_far l x i hi
  have := hm.count
  rw [this]; unfold nw; rw [headL_length]; omega

end Go.Proofs.Ytabkgdichlebmaa
