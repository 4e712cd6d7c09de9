/-
  Layer 7: the reference's Right, Size, Has, Place; the law's ints.
-/
import Derived.Test.YtkpfhjjojchdlaaShape7
import Derived.Test.YtkpfhjjojchdlaaIntsApp
import Derived.BigQuiet
import Derived.Deep.QuietTactic
namespace Go.Proofs.Ytkpfhjjojchdlaa
open Go.ChangeShapes Go.WideShapes Go.ChangeAt Go.RowKit
set_option linter.unusedVariables false
set_option maxRecDepth 100000

theorem Nums.ints {w : World} {B n : Nat} {A : Option Addr} {zs : List Int} (h : Nums w B A n zs) : Ints w A n zs :=
  ⟨h.1, fun h0 => by
    obtain ⟨b, off, e, _, hc⟩ := h.2 h0
    exact ⟨b, off, e, hc⟩⟩
set_option maxHeartbeats 1000000 in
theorem ref7Right_any (A : Option Addr) (n c B : Nat) (s : List Int) (w : World) (h : Nums w B A n s) (hn : n ≤ 1048576) :
    Calls Try.prog 64 #[.slice A n c] w fun e w' => e = .returned (.bool (rightS s)) ∧ w' = w := by
  have H := Lib.hid h
  have HL := Lib.hid h.1
  clear h
  go_enter Try.func64, Try.ntmps64
  go_wp2
  go_loop [3] (fun i => ∃ k : Nat, k ≤ n ∧ i = .int .i64 k ∧ ∀ j, j < k → 0 ≤ s.getD j 0 ∧ s.getD j 0 ≤ 1048576) (fun i => n - (intOf i).toNat)
  case atStart => exact ⟨0, Nat.zero_le _, rfl, fun j hj => by omega⟩
  case round =>
    obtain ⟨k, hk, rfl, hq⟩ := hrel
    have HQ := Lib.hid hq
    clear hq
    by_cases hlt : k < n
    · obtain ⟨b, off, rfl, _, hc⟩ := H.out.2.at_ hlt
      generalize hv : s.getD k 0 = v at *
      have HV := Lib.hid hv
      clear hv
      by_cases h0 : v < 0
      · have d0 : decide (v < 0) = true := decide_eq_true h0
        go_wp2
        go_ret
        exact ⟨congrArg (fun b => Ending.returned (.bool b)) (right_not (i := k) (by rw [HL.out]; exact hlt) (by rw [HV.out]; omega)), rfl⟩
      · have d0 : decide (v < 0) = false := decide_eq_false h0
        by_cases h1 : 1048576 < v
        · have d1 : decide ((1048576 : Int) < v) = true := decide_eq_true h1
          go_wp2
          go_ret
          exact ⟨congrArg (fun b => Ending.returned (.bool b)) (right_not (i := k) (by rw [HL.out]; exact hlt) (by rw [HV.out]; omega)), rfl⟩
        · have d1 : decide ((1048576 : Int) < v) = false := decide_eq_false h1
          go_wp2
          go_round
          case rel => exact ⟨k + 1, by omega, by go_num, fun j hj => by
            by_cases hjk : j = k
            · subst hjk; rw [HV.out]; omega
            · exact HQ.out j (by omega)⟩
          case measure => simp [intOf]; omega
    · obtain rfl : k = n := by omega
      go_wp2
      go_ret
      exact ⟨congrArg (fun b => Ending.returned (.bool b)) (right_by (fun i hi => HQ.out i (by rw [HL.out] at hi; exact hi)) (by rw [HL.out]; rw [decide_eq_decide]; omega)), rfl⟩
set_option maxHeartbeats 1000000 in
theorem ref7Size_any (A : Option Addr) (n c B : Nat) (s : List Int) (most : Int) (w : World) (h : Nums w B A n s) (hn : n ≤ 1048576) :
    Calls Try.prog 38 #[.slice A n c, .int .i64 most] w (ToldV (.tuple #[.int .i64 (sizeV s most), .bool (sizeB s most)]) w) := by
  have HR := Lib.hid (fun w' (h' : Nums w' B A n s) => ref7Right_any A n c B s w' h' hn)
  have HP := Lib.hid (fun hr w' (h' : Nums w' B A n s) => refProduct_any (min most 1048576) A n c s w' h'.ints (by omega) (by omega) (right_i64 hr))
  have H := Lib.hid h
  clear h
  have HSB := Lib.hid (show ∀ b, rightS s = b → sizeB s most = (b && prB (min most 1048576) s) from fun b hb => by unfold sizeB; rw [hb])
  cases hr : rightS s with
  | false =>
    rw [hr] at HR
    have HS := Lib.hid (show sizeB s most = false by rw [HSB.out _ hr]; rfl)
    have HV := Lib.hid (size_no HS.out)
    clear hr
    go_enter Try.func38, Try.ntmps38
    go_wp2_with fail
    refine (HR.out _ H.out).mono ?_
    rintro e w1 ⟨rfl, rfl⟩
    go_wp2_with fail
    go_ret2
    exact ⟨by rw [HS.out, HV.out]; rfl, 0, rfl⟩
  | true =>
    rw [hr] at HR
    have HP2 := Lib.hid (HP.out hr)
    generalize hmo : min most 1048576 = m0 at *
    have HS := Lib.hid (show sizeB s most = prB m0 s by rw [HSB.out _ hr]; rfl)
    have HMO := Lib.hid hmo
    have HY := Lib.hid (fun (hb : sizeB s most = true) => size_yes hb)
    have HN := Lib.hid (fun (hb : sizeB s most = false) => size_no hb)
    clear hr hmo HP
    go_enter Try.func38, Try.ntmps38
    go_wp2_with fail
    refine (HR.out _ H.out).mono ?_
    rintro e w1 ⟨rfl, rfl⟩
    go_wp2_with fail
    · obtain rfl : m0 = 1048576 := by have := HMO.out; omega
      refine (HP2.out _ H.out).mono ?_
      rintro e w2 ⟨p, hp, rfl, mq, rfl⟩
      have HPP := Lib.hid hp
      clear hp
      generalize prB _ s = pb at *
      cases pb with
      | false =>
        have HSV := Lib.hid (HN.out HS.out)
        go_wp2_with fail
        go_ret2
        exact ⟨by rw [HS.out, HSV.out]; rfl, mq, rfl⟩
      | true =>
        have HPE := Lib.hid (HPP.out rfl)
        have HSV := Lib.hid (HY.out HS.out)
        go_wp2_with fail
        go_ret2
        exact ⟨by rw [HS.out, HSV.out, ← HPE.out]; rfl, mq, rfl⟩
    · obtain rfl : m0 = most := by have := HMO.out; omega
      refine (HP2.out _ H.out).mono ?_
      rintro e w2 ⟨p, hp, rfl, mq, rfl⟩
      have HPP := Lib.hid hp
      clear hp
      generalize prB _ s = pb at *
      cases pb with
      | false =>
        have HSV := Lib.hid (HN.out HS.out)
        go_wp2_with fail
        go_ret2
        exact ⟨by rw [HS.out, HSV.out]; rfl, mq, rfl⟩
      | true =>
        have HPE := Lib.hid (HPP.out rfl)
        have HSV := Lib.hid (HY.out HS.out)
        go_wp2_with fail
        go_ret2
        exact ⟨by rw [HS.out, HSV.out, ← HPE.out]; rfl, mq, rfl⟩
set_option maxHeartbeats 2000000 in
theorem ref7Has_any (A A' : Option Addr) (n c B n' c' B' : Nat) (s t : List Int) (w : World) (h : Nums w B A n s) (h' : Nums w B' A' n' t) (hn : n ≤ 1048576) (hn' : n' ≤ 1048576) :
    Calls Try.prog 44 #[.slice A n c, .slice A' n' c'] w (ToldV (.bool (hasB s t)) w) := by
  have HR := Lib.hid (fun w' (hg : Nums w' B A n s) => ref7Right_any A n c B s w' hg hn)
  have H := Lib.hid h
  have H' := Lib.hid h'
  have HL := Lib.hid h.1
  have HL' := Lib.hid h'.1
  clear h h'
  cases hr : rightS s with
  | false =>
    rw [hr] at HR
    have HN := Lib.hid (show hasB s t = false from has_not (by rw [hr]; rintro ⟨h, _⟩; cases h))
    clear hr
    go_enter Try.func44, Try.ntmps44
    go_wp2_with fail
    refine (HR.out _ H.out).mono ?_
    rintro e w1 ⟨rfl, rfl⟩
    go_wp2_with fail
    go_ret
    exact ⟨by rw [HN.out]; rfl, 0, rfl⟩
  | true =>
    rw [hr] at HR
    have HRT := Lib.hid hr
    clear hr
    by_cases hnn : n' = n
    · subst hnn
      have d0 : ((n' : Int) != (n' : Int)) = false := by simp
      obtain ⟨w0, hw0⟩ : ∃ w0, w0 = w := ⟨_, rfl⟩
      subst hw0
      go_enter Try.func44, Try.ntmps44
      go_wp2_with fail
      refine (HR.out _ H.out).mono ?_
      rintro e w1 ⟨rfl, rfl⟩
      go_wp2_with fail
      go_loopw [5] (fun i wr => ∃ k m : Nat, k ≤ n' ∧ i = .int .i64 k ∧ (∀ j, j < k → 0 ≤ t.getD j 0 ∧ t.getD j 0 < s.getD j 0) ∧ wr = w1.drewN m) (fun i _ => n' - (intOf i).toNat)
      case atStart => exact ⟨0, 0, Nat.zero_le _, rfl, fun j hj => by omega, rfl⟩
      case round =>
        obtain ⟨k, m, hk, rfl, hq, hwr⟩ := hrel
        have HQ := Lib.hid hq
        clear hq
        by_cases hlt : k < n'
        · obtain ⟨b, off, rfl, _, hc⟩ := (H.out.drewN m).2.at_ hlt
          obtain ⟨b', off', rfl, _, hc'⟩ := (H'.out.drewN m).2.at_ hlt
          rw [← hwr] at hc hc'
          have HW := Lib.hid hwr
          clear hwr
          generalize h1 : s.getD k 0 = v at *
          generalize h2 : t.getD k 0 = u at *
          have H1 := Lib.hid h1
          have H2 := Lib.hid h2
          clear h1 h2
          by_cases h0 : u < 0
          · have d1 : decide (u < 0) = true := decide_eq_true h0
            have HNO := Lib.hid (show hasB s t = false from has_not (by rintro ⟨_, _, h⟩; have := h k (by rw [HL.out]; exact hlt); rw [H2.out] at this; omega))
            clear h0
            go_wp2
            go_quiet (fail)
            go_wp2
            go_ret
            exact ⟨by rw [HNO.out]; rfl, _, by rw [HW.out, World.drewN_drewN]⟩
          · have d1 : decide (u < 0) = false := decide_eq_false h0
            by_cases h3 : v ≤ u
            · have d2 : decide (v ≤ u) = true := decide_eq_true h3
              have HNO := Lib.hid (show hasB s t = false from has_not (by rintro ⟨_, _, h⟩; have := h k (by rw [HL.out]; exact hlt); rw [H1.out, H2.out] at this; omega))
              clear h0 h3
              go_wp2
              go_quiet (fail)
              go_wp2
              go_ret
              exact ⟨by rw [HNO.out]; rfl, _, by rw [HW.out, World.drewN_drewN]⟩
            · have d2 : decide (v ≤ u) = false := decide_eq_false h3
              have HOK := Lib.hid (show 0 ≤ u ∧ u < v by omega)
              clear h0 h3
              go_wp2
              go_quiet (fail)
              go_wp2
              go_roundw
              case rel => exact ⟨k + 1, _, by omega, by go_num, fun j hj => by
                by_cases hjk : j = k
                · subst hjk; rw [H1.out, H2.out]; exact HOK.out
                · exact HQ.out j (by omega), by rw [HW.out, World.drewN_drewN]⟩
              case measure => simp [intOf]; omega
        · obtain rfl : k = n' := by omega
          subst hwr
          have HY := Lib.hid (has_by HRT.out (by rw [HL.out, HL'.out]) (fun i hi => HQ.out i (by rw [HL.out] at hi; exact hi)))
          go_wp2
          go_ret
          exact ⟨by rw [HY.out]; rfl, m, rfl⟩
    · have d0 : ((n' : Int) != (n : Int)) = true := by simp; omega
      have HN := Lib.hid (show hasB s t = false from has_not (by rintro ⟨_, h, _⟩; rw [HL.out, HL'.out] at h; exact hnn h))
      clear hnn
      go_enter Try.func44, Try.ntmps44
      go_wp2_with fail
      refine (HR.out _ H.out).mono ?_
      rintro e w1 ⟨rfl, rfl⟩
      go_wp2_with fail
      go_ret
      exact ⟨by rw [HN.out]; rfl, 0, rfl⟩
theorem toldV_two {x y : Int} {a b : Bool} {w w' : World} {m : Nat} (h1 : x = y) (h2 : a = b) (hw : w' = w.drewN m) : ToldV (.tuple #[.int .i64 y, .bool b]) w (.returned (.tuple #[.int .i64 x, .bool a])) w' := by
  subst h1; subst h2; exact ⟨rfl, m, hw⟩
end Go.Proofs.Ytkpfhjjojchdlaa
