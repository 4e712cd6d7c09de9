/-
  bits.Of: contract.
-/
import Derived.Test.YtfnnnbpceeeecaaDoorFill
import Derived.RegionTactic
import Derived.BigRegion
import Derived.BigQuiet
import Derived.Deep.QuietTactic
import Derived.ChangeAlike
namespace Go.Proofs.YtfnnnbpceeeecaaDoor
open Go.ChangeShapes Go.WideShapes Go.ChangeAt Go.RowKit
set_option linter.unusedVariables false

/-- the slice at A holds these truths. -/
def Bools (w : World) (B : Nat) (A : Option Addr) (n : Nat) (l : List Bool) : Prop := l.length = n ∧ Sees w B A n fun k => .bool (l.getD k false)
theorem Bools.keep {w w' : World} {B : Nat} {A : Option Addr} {n : Nat} {l : List Bool} (h : Bools w B A n l) (hb : Below B w w') : Bools w' B A n l := ⟨h.1, h.2.below hb⟩
theorem Bools.drewN {w : World} {B : Nat} {A : Option Addr} {n : Nat} {l : List Bool} (h : Bools w B A n l) (m : Nat) : Bools (w.drewN m) B A n l := h
theorem Bools.more {w : World} {B B' : Nat} {A : Option Addr} {n : Nat} {l : List Bool} (h : Bools w B A n l) (hB : B ≤ B') : Bools w B' A n l := ⟨h.1, h.2.more hB⟩
theorem cutN_of (n : Nat) (h : n ≤ 2097152) : cutN (n : Int) = n := by unfold cutN; omega
theorem none_head (l : List Bool) : none_ l.length = headL l 0 := (headL_zero l).symm

theorem one_bit (s : Nat) (h : s < 64) : IntKind.u64.wrap (2 ^ s) = ((2 ^ s : Nat) : Int) := by
  have h2 : 2 ^ s < 2 ^ 64 := Nat.pow_lt_pow_right (by omega) h
  have e : (2 : Int) ^ s = ((2 ^ s : Nat) : Int) := by simp
  rw [e, IntKind.wrap_u64]
  generalize 2 ^ s = y at *
  omega
theorem head_step {w : World} {B g r k c x : Nat} {l : List Bool} (hm : Mask w B g (some ⟨r, 0, none⟩) k c (headL l x)) (hx : x < l.length) (hb : l.getD x false = true)
    (u : Int) (hu : u = bits BinOp.or IntKind.u64 ((word (headL l x) (x / 64) : Nat) : Int) (IntKind.u64.wrap (2 ^ (x % 64)))) :
    Mask (w.setCell ⟨r, x / 64, none⟩ (.int .u64 u)) B g (some ⟨r, 0, none⟩) k c (headL l (x + 1)) := by
  have h2 : 2 ^ (x % 64) < 2 ^ 64 := Nat.pow_lt_pow_right (by omega) (by omega)
  have hv : u = ((word (headL l (x + 1)) (x / 64) : Nat) : Int) := by
    rw [hu, word_head_at l x hb, one_bit _ (by omega), u64_or_nat _ _ (word_lt _ _) h2]
  rw [hv]
  refine hm.put (by rw [headL_length, headL_length]) ?_ fun i _ hi => word_head_far l x i hi
  have := hm.count
  rw [this]; unfold nw; rw [headL_length]; omega

set_option maxHeartbeats 1000000 in
theorem of_any (A : Option Addr) (n c : Nat) (l : List Bool) (w : World) (h : Bools w w.heap.size A n l) (hn : n ≤ 2097152) :
    Calls Tryd.prog 20 #[.slice A n c] w (NewMask l w) := by
  have H := Lib.hid h
  have HN := Lib.hid h.1
  have HE := Lib.hid (none_head l)
  clear h
  have hl : l.length ≤ 2097152 := by rw [HN.out]; exact hn
  go_enter Tryd.func20, Tryd.ntmps20
  go_wp2_with fail
  refine (blank_any (n : Int) ⟨by omega, by omega⟩ w).mono ?_
  rw [cutN_of n hn, ← HN.out, HE.out, HN.out]
  rintro e w1 ⟨g, A', k, c', rfl, hm, hg⟩
  have hlen := hm.len_cell
  rw [headL_length, HN.out] at hlen
  have hk := hm.count
  rw [show nw (headL l 0) = nw l by unfold nw; rw [headL_length]] at hk
  have HK := Lib.hid hk
  have HM := Lib.hid hm
  have HG := Lib.hid hg
  clear hm hg hk
  go_wp2_with fail
  go_loopw [12] (fun i wr => ∃ x : Nat, x ≤ n ∧ i = .int .i64 x ∧ Mask wr w.heap.size g A' k c' (headL l x) ∧ w.grownBy wr none) (fun i _ => n - (intOf i).toNat)
  case atStart => exact ⟨0, by omega, rfl, HM.out, HG.out⟩
  case round =>
    obtain ⟨x, hx, rfl, hm, hg⟩ := hrel
    by_cases hlt : x < n
    · obtain ⟨b, off, rfl, hb, hcell⟩ := (H.out.keep (below_of_grown hg)).2.at_ hlt
      have hj : x / 64 < k := by rw [HK.out]; unfold nw; rw [HN.out]; omega
      have hrow := hm.row_cell
      obtain ⟨r, rfl, hne, hB, hc, hfz⟩ := hm.at_ hj
      have HG2 := Lib.hid hg
      have HM2 := Lib.hid hm
      clear hg hm
      generalize hwd : word (headL l x) (x / 64) = v at *
      have HW := Lib.hid hwd
      clear hwd
      generalize hlx : l.getD x false = y at *
      have HY := Lib.hid hlx
      clear hlx
      cases y
      · have HS := Lib.hid (headL_skip l x HY.out)
        go_wp2
        go_roundw
        case rel => exact ⟨x + 1, by omega, by go_num, by rw [HS.out]; exact HM2.out, HG2.out⟩
        case measure => simp [intOf]; omega
      · go_wp2
        go_region
        go_wp2
        go_roundw
        case rel => exact ⟨x + 1, by omega, by go_num, head_step HM2.out (by rw [HN.out]; exact hlt) HY.out _ (by rw [HW.out]), grown_drew (grown_put HG2.out (.inr hB) _)⟩
        case measure => simp [intOf]; omega
    · obtain rfl : x = n := by omega
      have HG2 := Lib.hid hg
      have HM2 := Lib.hid hm
      clear hg hm
      go_wp2
      go_ret
      refine ⟨g, A', k, c', rfl, ?_, HG2.out⟩
      have h2 := HM2.out
      rw [← HN.out, headL_all] at h2
      exact h2
end Go.Proofs.YtfnnnbpceeeecaaDoor
