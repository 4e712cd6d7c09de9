/-
  Layer 6: the program's own slots, one by one: round, and the function that it hands back.
-/
import Derived.Test.YtfemfkiamipipaaSays6
import Derived.RangeFuncNested
import Derived.RangeFuncBound
import Derived.RangeFuncCalls
import Derived.RangeFuncLeaves
import Derived.Shelf.Abstract
import Derived.Shelf.RegionOpen
import Derived.OwnWalkIn
import Derived.TacticsInMore
import Derived.LoopNIn
import Derived.LoopIn
namespace Go.Proofs.Ytfemfkiamipipaa
open Go.ChangeShapes Go.WideShapes Go.ChangeAt Go.RowKit Go.Shelf
set_option linter.unusedVariables false
attribute [local go_sem] Oper.semAt_some

/-- the slots that a label's hash names, one by one. -/
def slotsL {R : Nat} (hR : 0 < R) (h k : Nat) : List (Fin R) := (List.range k).map fun j => ⟨(h + j) % R, Nat.mod_lt _ hR⟩
theorem slots_length {R : Nat} (hR : 0 < R) (h k : Nat) : (slotsL hR h k).length = k := by simp [slotsL]
theorem slots_succ {R : Nat} (hR : 0 < R) (h k : Nat) : slotsL hR h (k + 1) = slotsL hR h k ++ [⟨(h + k) % R, Nat.mod_lt _ hR⟩] := by unfold slotsL; rw [List.range_succ, List.map_append]; rfl
theorem slots_mem {R : Nat} (hR : 0 < R) {h k j : Nat} (hj : j < k) : (⟨(h + j) % R, Nat.mod_lt _ hR⟩ : Fin R) ∈ slotsL hR h k := by
  unfold slotsL
  exact List.mem_map.2 ⟨j, List.mem_range.2 hj, rfl⟩
/-- a round keeps what it likes. -/
def KeepT (_ _ : World) : Prop := True
theorem ownRoundF_any (b : Nat) (ak an : Int) (as' : ByteArray) (w : World) : Calls Try.prog 27 #[.pointer (some ⟨b, 0, none⟩), .agg #[.int .u8 ak, .int .i64 an, .string as']] w fun e w' =>
    e = .returned (.func (.func 36) #[] #[.pointer (some ⟨w.heap.size, 0, none⟩), .pointer (some ⟨w.heap.size + 1, 0, none⟩)]) ∧
    w' = (w.alloc (.cells #[.pointer (some ⟨b, 0, none⟩)] 25)).alloc (.cells #[.int .u8 ak, .int .i64 an, .string as'] 38) := by
  go_enter Try.func27, Try.ntmps27
  go_wp2
  go_ret
  exact ⟨rfl, rfl⟩
set_option maxRecDepth 100000 in
set_option maxHeartbeats 2000000 in
theorem ownRound1_in (n : Nat) (hn : 1 ≤ n) (l Bt Ba b R : Nat) (s0 s1 : Value) (g : Nat) (ak an : Int) (as' : ByteArray) (ha : okL ⟨ak, an, as'⟩) (hR0 : 0 < R) (hR1 : R ≤ 20000) (J Jx : List (Fin R) → World → Prop) (W : World)
    (hJ : AbidesFrom W.heap.size J)
    (hY : ∀ pre x W, J pre W → pre.length < R → YieldAt Fence.wide (n - 1) Try.prog l #[.int .i64 (x.val : Int)] W fun e W' =>
      (e = .returned (.bool true) ∧ J (pre ++ [x]) W' ∧ KeepT W W') ∨ (e = .returned (.bool false) ∧ Jx (pre ++ [x]) W'))
    (hBt : Box W Bt 25 #[.pointer (some ⟨b, 0, none⟩)]) (hBa : Box W Ba 38 #[.int .u8 ak, .int .i64 an, .string as'])
    (hb : Box W b 56 #[s0, s1, .slice (some ⟨g, 0, none⟩) R R]) (h0 : J [] W) :
    CallsIn Fence.wide n Try.prog 36 #[.func (.yield l) #[] #[], .pointer (some ⟨Bt, 0, none⟩), .pointer (some ⟨Ba, 0, none⟩)] W fun e W' => (∃ v, e = .returned v) ∧
      ((∃ ys, ys = slotsL hR0 (hashN ⟨ak, an, as'⟩) R ∧ J ys W') ∨ (∃ pre, (∃ k, k ≤ R ∧ pre = slotsL hR0 (hashN ⟨ak, an, as'⟩) k) ∧ Jx pre W')) := by
  have x0 := hBa.get 0
  have x1 := hBa.get 1
  have x2 := hBa.get 2
  have r0 := hBt.get 0
  have t2 := hb.get 2
  have HH := Lib.hid (fun w' => ownHash_any ak an as' w' ha.1 ha.2.1 ha.2.2.1 ha.2.2.2.1 ha.2.2.2.2)
  have HJ := Lib.hid hJ
  rw [hashN_is] at HH
  have hH : hashN ⟨ak, an, as'⟩ < 18446744073709551616 := by have := hashI_range ⟨ak, an, as'⟩; rw [hashN_is] at this; omega
  generalize hashN ⟨ak, an, as'⟩ = h at *
  obtain ⟨q0, hq0⟩ : ∃ q0, q0 = h % R := ⟨_, rfl⟩
  have HQ0 := Lib.hid hq0
  have hq1 : q0 < R := by rw [hq0]; exact Nat.mod_lt _ (by omega)
  have m0 : IntKind.u64.wrap (R : Int) = (R : Int) := IntWalk.u64_in _ (by omega)
  have m1 : (h : Int) % (R : Int) = (q0 : Int) := by rw [hq0]; rfl
  have m5 : (h : Int).tmod (R : Int) = (q0 : Int) := by rw [IntWalk.rem_in _ _ (by omega)]; exact m1
  have m2 : wrap64 (q0 : Int) = (q0 : Int) := IntWalk.wrap64_in _ (by omega)
  have m3 : ((R : Int) == 0) = false := by simp; omega
  clear hq0 hBa hBt hb
  have hfn : Fence.wide.fn 37 := trivial
  have hn1 : 1 ≤ n := hn
  refine callsIn_of_wp Try.func36 rfl trivial ?_ rfl
  simp only [Try.ntmps36, List.size_toArray, List.length_cons, List.length_nil, Nat.reduceAdd, Nat.reduceSub, Array.replicate_succ, Array.replicate_zero, List.push_toArray, List.append_toArray, List.nil_append, List.cons_append]
  gi_wp2_with (gi_at_call 37; refine (callsIn_wide.2 (HH.out _)).mono ?_; rintro e w2 ⟨rfl, hg⟩; have HG2 := Lib.hid hg; clear hg)
  have hJ2 : J [] w2 := HJ.out [] W w2 none h0 HG2.out (fun r e => by cases e)
  gi_loopw [19] (fun c wr => ∃ j : Nat, j ≤ R ∧ c = .int .i64 j ∧ J (slotsL hR0 h j) wr) (fun c _ => R - (intOf c).toNat)
  case atStart => exact ⟨0, by omega, rfl, hJ2⟩
  case round =>
    obtain ⟨j, hj, rfl, hJs⟩ := hrel
    by_cases hlt : j < R
    · have e1 : decide ((j : Int) < (R : Int)) = true := by simp; omega
      obtain ⟨q, hq⟩ : ∃ q, q = (h + j) % R := ⟨_, rfl⟩
      have HQ := Lib.hid hq
      have hqR : q < R := by rw [hq]; exact Nat.mod_lt _ (by omega)
      have t1 : ((q0 : Int) + (j : Int)) % (R : Int) = (q : Int) := by rw [hq, HQ0.out, ← Nat.mod_add_mod]; rfl
      have t2 : ((q0 : Int) + (j : Int)).tmod (R : Int) = (q : Int) := by rw [IntWalk.rem_in _ _ (by omega)]; exact t1
      have t3 : IntKind.i64.wrap ((q0 : Int) + (j : Int)) = (q0 : Int) + (j : Int) := IntWalk.i64_in _ (by omega)
      clear hq
      obtain ⟨fn, tmps, assign, body, hy, hR⟩ := hY _ ⟨q, hqR⟩ wr hJs (by rw [slots_length]; exact hlt)
      have HSL := Lib.hid (show slotsL hR0 h j ++ [⟨q, hqR⟩] = slotsL hR0 h (j + 1) by rw [slots_succ]; exact congrArg (fun z => slotsL hR0 h j ++ [z]) (Fin.ext HQ.out))
      dsimp only at hy
      gi_wp2
      refine hR.mono ?_
      rintro e W3 (⟨rfl, hJ3, _⟩ | ⟨rfl, hJx3⟩)
      · gi_wp2
        go_roundw
        case rel => exact ⟨j + 1, by omega, by go_num, by rw [← HSL.out]; exact hJ3⟩
        case measure => simp [intOf]; omega
      · gi_wp2
        refine bodyPost_ret (results_none rfl _ _ _) rfl ?_
        exact ⟨⟨_, rfl⟩, .inr ⟨_, ⟨j + 1, by omega, HSL.out⟩, hJx3⟩⟩
    · obtain rfl : R = j := by omega
      have e1 : decide ((R : Int) < (R : Int)) = false := by simp
      gi_wp2
      go_end0
      exact ⟨⟨_, rfl⟩, .inl ⟨_, rfl, hJs⟩⟩
theorem ownRound_stops (n : Nat) (hn : 1 ≤ n) (Bt Ba b R : Nat) (s0 s1 : Value) (g : Nat) (ak an : Int) (as' : ByteArray) (ha : okL ⟨ak, an, as'⟩) (hR0 : 0 < R) (hR1 : R ≤ 20000) (w : World)
    (hBt : Box w Bt 25 #[.pointer (some ⟨b, 0, none⟩)]) (hBa : Box w Ba 38 #[.int .u8 ak, .int .i64 an, .string as'])
    (hb : Box w b 56 #[s0, s1, .slice (some ⟨g, 0, none⟩) R R]) :
    SeqStopsK Fence.wide n Try.prog 36 #[.pointer (some ⟨Bt, 0, none⟩), .pointer (some ⟨Ba, 0, none⟩)] (fun x : Fin R => #[Value.int .i64 (x.val : Int)]) KeepT (fun ys => ys = slotsL hR0 (hashN ⟨ak, an, as'⟩) R) (fun pre => ∃ k, k ≤ R ∧ pre = slotsL hR0 (hashN ⟨ak, an, as'⟩) k) R w := fun l J Jx W hW hJ _ hY h0 =>
  ownRound1_in n hn l Bt Ba b R s0 s1 g ak an as' ha hR0 hR1 J Jx W hJ hY (hBt.grown (grown_of_below hW) (by simp)) (hBa.grown (grown_of_below hW) (by simp)) (hb.grown (grown_of_below hW) (by simp)) h0
end Go.Proofs.Ytfemfkiamipipaa
