/-
  THE WALK OF BufMakes: how many cells there may be, and which are the same.
-/
import Derived.Test.YtabkgdichlebmaaKnows3
namespace Go.Proofs.Ytabkgdichlebmaa
open Go.ChangeShapes Go.WideShapes Go.ChangeAt Go.RowKit
set_option linter.unusedVariables false

theorem popc_not (f : Nat → Bool) (n : Nat) : popc f n + popc (fun i => !f i) n = n := by
  induction n with
  | zero => rfl
  | succ n ih =>
    rw [popc_succ, popc_succ]
    cases f n
    · simp; omega
    · simp; omega
theorem missN_is (l : List Cel) : missN l = popc (fun i => !(l.getD i noCel).ok) l.length := by
  have h := popc_not (fun i => (l.getD i noCel).ok) l.length
  have e : cnt (oks l) = popc (fun i => (l.getD i noCel).ok) l.length := by
    unfold cnt
    rw [oks_length]
    exact popc_congr fun i _ => oks_get l i
  unfold missN
  rw [e]
  omega
theorem missN_blanks (n : Nat) : missN (blanks n) = n := by
  unfold missN
  rw [oks_blanks, cnt_none, blanks_length]
  omega
def eqlB (x y : Cel) : Bool := decide (x = y)
theorem eql_cel (x y : Cel) (w : World) : (binOp .eql 30 (.agg #[.int .i64 x.v, .bool x.ok]) (.agg #[.int .i64 y.v, .bool y.ok])).run Try.prog w = .ok (.bool (eqlB x y)) w := by
  have hu := Try.underlying30
  have hf : Try.prog.fieldsOf 30 = (match Try.prog.underlying 30 with | some (.struct fs) => fs | _ => #[]) := rfl
  rw [hu] at hf
  rw [run_eql_struct, run_equalIn_agg w 9999 _ _ _ (by kernel_rfl) (by kernel_rfl), hf]
  have q1 := fun w => run_equalIn_int (P := Try.prog) w 9998 2 .i64 .i64 x.v y.v Try.underlying2
  have q2 := fun w => run_equalIn_bool' (P := Try.prog) w 9998 4 x.ok y.ok Try.underlying4
  unfold eqlB
  simp [Op.eqFields, go_sem, q1, q2]
  obtain ⟨a, b⟩ := x
  obtain ⟨c, d⟩ := y
  by_cases h1 : a = c <;> by_cases h2 : b = d <;> simp [h1, h2]
/-- New, whatever it answers. -/
def NewAny (n most : Int) (w : World) (e : Ending) (w' : World) : Prop :=
  ∃ p, e = .returned (.tuple #[.pointer p, .int .i64 (newE n most)]) ∧ BufP w' w.heap.size w'.heap.size p (blanks (newN n most)) ∧ w.grownBy w' none ∧ p.isNone = !(newE n most == 0)
theorem bufNew_all (n most : Int) (w : World) : Calls Try.prog 19 #[.int .i64 n, .int .i64 most] w (NewAny n most w) := by
  refine (bufNew_any n most w).mono ?_
  rintro e w' (⟨h0, rfl, hww⟩ | ⟨h0, _, _, g, mp, A, c, rfl, hb, hg⟩)
  · subst hww
    exact ⟨none, rfl, by unfold newN; rw [if_neg h0]; exact BufP.nil _ _ _, grown_refl _ _, by simp [h0]⟩
  · refine ⟨_, by rw [h0], ?_, hg, by simp [h0]⟩
    unfold newN
    rw [if_pos h0]
    exact hb.p
theorem newN_le (n most : Int) : newN n most ≤ 1048576 := by
  unfold newN
  split
  · rename_i h
    unfold newE at h
    split at h
    · omega
    · omega
  · omega
theorem eqlB_self (x : Cel) : eqlB x x = true := decide_eq_true rfl
theorem makes_many (n most : Int) (A A' : Option Addr) (k k' c c' : Nat) (w : World) (h : (5000 < n ∧ n ≤ 1048576) ∨ 200 < k ∨ 200 < k') (hk : k ≤ 9223372036854775807) (hk' : k' ≤ 9223372036854775807) :
    Calls Try.prog 4 #[.int .i64 n, .int .i64 most, .slice A k c, .slice A' k' c'] w (Gave (.bool true) w) := by
  have go : ∀ (h1 : Hid True), Hid True := fun h => h
  clear go
  by_cases h1 : 5000 < n
  · by_cases h2 : n ≤ 1048576
    · clear h
      go_enter Try.func4, Try.ntmps4
      go_wp2_with fail
      refine (knows3_any _).mono ?_
      rintro e w1 ⟨rfl, hg⟩
      have HG := Lib.hid hg
      clear hg
      go_wp2_with fail
      go_ret
      exact ⟨rfl, HG.out⟩
    · by_cases h3 : 200 < k
      · clear h
        go_enter Try.func4, Try.ntmps4
        go_wp2_with fail
        refine (knows3_any _).mono ?_
        rintro e w1 ⟨rfl, hg⟩
        have HG := Lib.hid hg
        clear hg
        go_wp2_with fail
        go_ret
        exact ⟨rfl, HG.out⟩
      · have h4 : 200 < k' := by omega
        clear h
        go_enter Try.func4, Try.ntmps4
        go_wp2_with fail
        refine (knows3_any _).mono ?_
        rintro e w1 ⟨rfl, hg⟩
        have HG := Lib.hid hg
        clear hg
        go_wp2_with fail
        go_ret
        exact ⟨rfl, HG.out⟩
  · by_cases h3 : 200 < k
    · clear h
      go_enter Try.func4, Try.ntmps4
      go_wp2_with fail
      refine (knows3_any _).mono ?_
      rintro e w1 ⟨rfl, hg⟩
      have HG := Lib.hid hg
      clear hg
      go_wp2_with fail
      go_ret
      exact ⟨rfl, HG.out⟩
    · have h4 : 200 < k' := by omega
      clear h
      go_enter Try.func4, Try.ntmps4
      go_wp2_with fail
      refine (knows3_any _).mono ?_
      rintro e w1 ⟨rfl, hg⟩
      have HG := Lib.hid hg
      clear hg
      go_wp2_with fail
      go_ret
      exact ⟨rfl, HG.out⟩
set_option maxRecDepth 100000 in
set_option maxHeartbeats 8000000 in
theorem makes_small (n most : Int) (A A' : Option Addr) (k k' c c' : Nat) (l l' : List Cel) (w : World) (h : Cels w w.heap.size A k l) (h' : Cels w w.heap.size A' k' l') (hk : k ≤ 200) (hk' : k' ≤ 200) (hn : n ≤ 5000) :
    Calls Try.prog 4 #[.int .i64 n, .int .i64 most, .slice A k c, .slice A' k' c'] w (Gave (.bool true) w) := by
  have H := Lib.hid h
  have H' := Lib.hid h'
  have HN := Lib.hid h.1
  have HN' := Lib.hid h'.1
  have HLE := Lib.hid (newN_le n most)
  have HMB := Lib.hid (missN_blanks (newN n most))
  have HML := Lib.hid (missN_is l)
  clear h h'
  go_enter Try.func4, Try.ntmps4
  go_wp2_with fail
  refine (knows3_any _).mono ?_
  rintro e w1 ⟨rfl, hg⟩
  have HG1 := Lib.hid hg
  clear hg
  go_wp2_with fail
  refine (bufNew_all n most w1).mono ?_
  rintro e w2 ⟨p, rfl, hb, hg, hp⟩
  have HP := Lib.hid hp
  have HB2 := Lib.hid hb
  have HG2 := Lib.hid (join0 HG1.out hg)
  clear hb hg hp
  go_wp2_with fail
  refine (ref3New_any n most w2).mono ?_
  rintro e w3 ⟨A3, c3, rfl, hg⟩
  have HB3 := Lib.hid (HB2.out.grow hg)
  have HG3 := Lib.hid (join0 HG2.out hg)
  clear hg
  generalize newN n most = N at *
  generalize newE n most = E at *
  go_wp2_with fail
  refine (lawCells_any A k c l w3 (H.out.grow HG3.out) (by omega)).mono ?_
  rintro e w4 ⟨A4, c4, rfl, ho, hg⟩
  rw [HN.out] at ho
  rw [HN.out]
  have HO4 := Lib.hid ho
  have HB4 := Lib.hid (HB3.out.grow hg)
  have HG4 := Lib.hid (join0 HG3.out hg)
  clear ho hg
  go_wp2_with fail
  refine (bufOf_any A4 k c4 l w4 HO4.out.cels (by omega)).mono ?_
  rintro e w5 ⟨g5, mp5, A5, c5, rfl, hb, hg⟩
  have HQ5 := Lib.hid hb
  have HB5 := Lib.hid (HB4.out.grow hg)
  have HG5 := Lib.hid (join0 HG4.out hg)
  clear hb hg
  go_wp2_with fail
  refine (lawCells_any A' k' c' l' w5 (H'.out.grow HG5.out) (by omega)).mono ?_
  rintro e w6 ⟨A6, c6, rfl, ho, hg⟩
  rw [HN'.out] at ho
  rw [HN'.out]
  have HO6 := Lib.hid ho
  have HQ6 := Lib.hid (HQ5.out.grow hg)
  have HB6 := Lib.hid (HB5.out.grow hg)
  have HG6 := Lib.hid (join0 HG5.out hg)
  clear ho hg
  go_wp2_with fail
  refine (bufOf_any A6 k' c6 l' w6 HO6.out.cels (by omega)).mono ?_
  rintro e w7 ⟨g7, mp7, A7, c7, rfl, hb, hg⟩
  have HR7 := Lib.hid hb
  have HQ7 := Lib.hid (HQ6.out.grow hg)
  have HB7 := Lib.hid (HB6.out.grow hg)
  have HG7 := Lib.hid (join0 HG6.out hg)
  clear hb hg
  go_wp2_with fail
  have HGC := Lib.hid (H.out.grow HG7.out)
  go_loop [15, 16] (fun m i => ∃ x : Nat, x ≤ k ∧ i = .int .i64 x ∧ m = .int .i64 ((popc (fun i => !(l.getD i noCel).ok) x : Nat) : Int)) (fun _ i => k - (intOf i).toNat)
  case atStart => exact ⟨0, by omega, rfl, rfl⟩
  case round =>
    obtain ⟨x, hx, rfl, rfl⟩ := hrel
    have hpl := popc_le (fun i => !(l.getD i noCel).ok) x
    by_cases hlt : x < k
    · obtain ⟨b, off, rfl, _, hc1, hc2⟩ := HGC.out.at_ hlt
      have HS := Lib.hid (popc_succ (fun i => !(l.getD i noCel).ok) x)
      generalize hq : popc (fun i => !(l.getD i noCel).ok) x = q at *
      have HQX := Lib.hid hq
      clear hq
      generalize hy : l.getD x noCel = y at *
      have HY := Lib.hid hy
      clear hy
      obtain ⟨yv, yo⟩ := y
      cases yo
      · go_wp2
        go_round
        case rel => exact ⟨x + 1, by omega, by go_num, by rw [HS.out]; go_num⟩
        case measure => simp [intOf]; omega
      · go_wp2
        go_round
        case rel => exact ⟨x + 1, by omega, by go_num, by rw [HS.out]; go_num⟩
        case measure => simp [intOf]; omega
    · obtain rfl : k = x := by omega
      clear hpl
      rw [← HN.out, ← HML.out, HN.out]
      have ep := HP.out
      obtain ⟨yc, hyc⟩ : ∃ yc, yc = Cel.norm ⟨3, decide (0 < n)⟩ := ⟨_, rfl⟩
      have HN3 : Hid (∀ w, Calls Try.prog 26 #[.agg #[.int .i64 3, .bool (decide (0 < n))]] w (Gave (.agg #[.int .i64 yc.v, .bool yc.ok]) w)) := Lib.hid fun w => by
        have h := bufNorm_any ⟨3, decide (0 < n)⟩ w
        rw [hyc, Cel.norm_ok]
        exact h
      have HN4 : Hid (∀ w, Calls Try.prog 15 #[.agg #[.int .i64 3, .bool (decide (0 < n))]] w (Gave (.agg #[.int .i64 yc.v, .bool yc.ok]) w)) := Lib.hid fun w => by
        rw [hyc]
        exact ref3Norm_any ⟨3, decide (0 < n)⟩ w
      clear hyc
      generalize hmq : missN l = q at *
      have HMQ := Lib.hid hmq
      clear hmq
      go_wp2_with fail
      refine (num3_any E _).mono ?_
      rintro e w8 ⟨rfl, hww⟩
      subst hww
      go_wp2_with fail
      refine (buflen_any p (blanks N) _ _ _ HB7.out).mono ?_
      rw [blanks_length]
      rintro e w9 ⟨rfl, hg⟩
      have HG9 := Lib.hid (join0 HG7.out hg)
      have HB9 := Lib.hid (HB7.out.grow hg)
      have HQ9 := Lib.hid (HQ7.out.grow hg)
      have HR9 := Lib.hid (HR7.out.grow hg)
      clear hg
      go_wp2_with fail
      refine (bufMissing_any p (blanks N) _ _ _ HB9.out).mono ?_
      rw [HMB.out]
      rintro e w10 ⟨rfl, hg⟩
      have HG10 := Lib.hid (join0 HG9.out hg)
      have HQ10 := Lib.hid (HQ9.out.grow hg)
      have HR10 := Lib.hid (HR9.out.grow hg)
      clear hg
      go_wp2_with fail
      refine (bufSame_any _ _ l l' _ _ _ _ _ HQ10.out.p HR10.out.p).mono ?_
      generalize hsm : decide (norms l = norms l') = y at *
      have HSM := Lib.hid hsm
      clear hsm
      rintro e w11 ⟨rfl, hg⟩
      have HG11 := Lib.hid (join0 HG10.out hg)
      have HQ11 := Lib.hid (HQ10.out.grow hg)
      clear hg
      go_wp2_with fail
      refine (ref3Same_any A A' k k' c c' l l' w11 (H.out.grow HG11.out) (H'.out.grow HG11.out) (by omega) (by omega)).mono ?_
      rw [HSM.out]
      rintro e w12 ⟨rfl, hg⟩
      have HG12 := Lib.hid (join0 HG11.out hg)
      have HQ12 := Lib.hid (HQ11.out.grow hg)
      clear hg
      have hyy : (y == y) = true := by cases y <;> rfl
      go_wp2_with fail
      refine (bufClone_any _ l _ _ _ HQ12.out.p).mono ?_
      rintro e w13 ⟨g13, mp13, A13, c13, rfl, hb, hg⟩
      have HG13 := Lib.hid (join0 HG12.out hg)
      have HQ13 := Lib.hid (HQ12.out.grow hg)
      have HC13 := Lib.hid hb
      clear hg hb
      go_wp2_with fail
      refine (bufSame_any _ _ l l _ _ _ _ _ HQ13.out.p HC13.out.p).mono ?_
      rw [show decide (norms l = norms l) = true from decide_eq_true rfl]
      rintro e w14 ⟨rfl, hg⟩
      have HG14 := Lib.hid (join0 HG13.out hg)
      have HQ14 := Lib.hid (HQ13.out.grow hg)
      clear hg
      go_wp2_with fail
      refine (bufMissing_any _ l _ _ _ HQ14.out.p).mono ?_
      rw [HMQ.out]
      rintro e w15 ⟨rfl, hg⟩
      have HG15 := Lib.hid (join0 HG14.out hg)
      clear hg
      go_wp2_with fail
      refine (HN3.out _).mono ?_
      rintro e w16 ⟨rfl, hg⟩
      have HG16 := Lib.hid (join0 HG15.out hg)
      clear hg
      go_wp2_with fail
      refine (HN4.out _).mono ?_
      rintro e w17 ⟨rfl, hg⟩
      have HG17 := Lib.hid (join0 HG16.out hg)
      clear hg
      have heq := eql_cel yc yc w17
      rw [eqlB_self] at heq
      go_wp2_with fail
      go_ret
      exact ⟨rfl, HG17.out⟩
set_option maxRecDepth 100000 in
set_option maxHeartbeats 8000000 in
theorem makes_great (n most : Int) (A A' : Option Addr) (k k' c c' : Nat) (l l' : List Cel) (w : World) (h : Cels w w.heap.size A k l) (h' : Cels w w.heap.size A' k' l') (hk : k ≤ 200) (hk' : k' ≤ 200) (hn : 1048576 < n) :
    Calls Try.prog 4 #[.int .i64 n, .int .i64 most, .slice A k c, .slice A' k' c'] w (Gave (.bool true) w) := by
  have H := Lib.hid h
  have H' := Lib.hid h'
  have HN := Lib.hid h.1
  have HN' := Lib.hid h'.1
  have HLE := Lib.hid (newN_le n most)
  have HMB := Lib.hid (missN_blanks (newN n most))
  have HML := Lib.hid (missN_is l)
  clear h h'
  have hn1 : 5000 < n := by omega
  go_enter Try.func4, Try.ntmps4
  go_wp2_with fail
  refine (knows3_any _).mono ?_
  rintro e w1 ⟨rfl, hg⟩
  have HG1 := Lib.hid hg
  clear hg
  go_wp2_with fail
  refine (bufNew_all n most w1).mono ?_
  rintro e w2 ⟨p, rfl, hb, hg, hp⟩
  have HP := Lib.hid hp
  have HB2 := Lib.hid hb
  have HG2 := Lib.hid (join0 HG1.out hg)
  clear hb hg hp
  go_wp2_with fail
  refine (ref3New_any n most w2).mono ?_
  rintro e w3 ⟨A3, c3, rfl, hg⟩
  have HB3 := Lib.hid (HB2.out.grow hg)
  have HG3 := Lib.hid (join0 HG2.out hg)
  clear hg
  generalize newN n most = N at *
  generalize newE n most = E at *
  go_wp2_with fail
  refine (lawCells_any A k c l w3 (H.out.grow HG3.out) (by omega)).mono ?_
  rintro e w4 ⟨A4, c4, rfl, ho, hg⟩
  rw [HN.out] at ho
  rw [HN.out]
  have HO4 := Lib.hid ho
  have HB4 := Lib.hid (HB3.out.grow hg)
  have HG4 := Lib.hid (join0 HG3.out hg)
  clear ho hg
  go_wp2_with fail
  refine (bufOf_any A4 k c4 l w4 HO4.out.cels (by omega)).mono ?_
  rintro e w5 ⟨g5, mp5, A5, c5, rfl, hb, hg⟩
  have HQ5 := Lib.hid hb
  have HB5 := Lib.hid (HB4.out.grow hg)
  have HG5 := Lib.hid (join0 HG4.out hg)
  clear hb hg
  go_wp2_with fail
  refine (lawCells_any A' k' c' l' w5 (H'.out.grow HG5.out) (by omega)).mono ?_
  rintro e w6 ⟨A6, c6, rfl, ho, hg⟩
  rw [HN'.out] at ho
  rw [HN'.out]
  have HO6 := Lib.hid ho
  have HQ6 := Lib.hid (HQ5.out.grow hg)
  have HB6 := Lib.hid (HB5.out.grow hg)
  have HG6 := Lib.hid (join0 HG5.out hg)
  clear ho hg
  go_wp2_with fail
  refine (bufOf_any A6 k' c6 l' w6 HO6.out.cels (by omega)).mono ?_
  rintro e w7 ⟨g7, mp7, A7, c7, rfl, hb, hg⟩
  have HR7 := Lib.hid hb
  have HQ7 := Lib.hid (HQ6.out.grow hg)
  have HB7 := Lib.hid (HB6.out.grow hg)
  have HG7 := Lib.hid (join0 HG6.out hg)
  clear hb hg
  go_wp2_with fail
  have HGC := Lib.hid (H.out.grow HG7.out)
  go_loop [15, 16] (fun m i => ∃ x : Nat, x ≤ k ∧ i = .int .i64 x ∧ m = .int .i64 ((popc (fun i => !(l.getD i noCel).ok) x : Nat) : Int)) (fun _ i => k - (intOf i).toNat)
  case atStart => exact ⟨0, by omega, rfl, rfl⟩
  case round =>
    obtain ⟨x, hx, rfl, rfl⟩ := hrel
    have hpl := popc_le (fun i => !(l.getD i noCel).ok) x
    by_cases hlt : x < k
    · obtain ⟨b, off, rfl, _, hc1, hc2⟩ := HGC.out.at_ hlt
      have HS := Lib.hid (popc_succ (fun i => !(l.getD i noCel).ok) x)
      generalize hq : popc (fun i => !(l.getD i noCel).ok) x = q at *
      have HQX := Lib.hid hq
      clear hq
      generalize hy : l.getD x noCel = y at *
      have HY := Lib.hid hy
      clear hy
      obtain ⟨yv, yo⟩ := y
      cases yo
      · go_wp2
        go_round
        case rel => exact ⟨x + 1, by omega, by go_num, by rw [HS.out]; go_num⟩
        case measure => simp [intOf]; omega
      · go_wp2
        go_round
        case rel => exact ⟨x + 1, by omega, by go_num, by rw [HS.out]; go_num⟩
        case measure => simp [intOf]; omega
    · obtain rfl : k = x := by omega
      clear hpl
      rw [← HN.out, ← HML.out, HN.out]
      have ep := HP.out
      obtain ⟨yc, hyc⟩ : ∃ yc, yc = Cel.norm ⟨3, decide (0 < n)⟩ := ⟨_, rfl⟩
      have HN3 : Hid (∀ w, Calls Try.prog 26 #[.agg #[.int .i64 3, .bool (decide (0 < n))]] w (Gave (.agg #[.int .i64 yc.v, .bool yc.ok]) w)) := Lib.hid fun w => by
        have h := bufNorm_any ⟨3, decide (0 < n)⟩ w
        rw [hyc, Cel.norm_ok]
        exact h
      have HN4 : Hid (∀ w, Calls Try.prog 15 #[.agg #[.int .i64 3, .bool (decide (0 < n))]] w (Gave (.agg #[.int .i64 yc.v, .bool yc.ok]) w)) := Lib.hid fun w => by
        rw [hyc]
        exact ref3Norm_any ⟨3, decide (0 < n)⟩ w
      clear hyc
      generalize hmq : missN l = q at *
      have HMQ := Lib.hid hmq
      clear hmq
      go_wp2_with fail
      refine (num3_any E _).mono ?_
      rintro e w8 ⟨rfl, hww⟩
      subst hww
      go_wp2_with fail
      refine (buflen_any p (blanks N) _ _ _ HB7.out).mono ?_
      rw [blanks_length]
      rintro e w9 ⟨rfl, hg⟩
      have HG9 := Lib.hid (join0 HG7.out hg)
      have HB9 := Lib.hid (HB7.out.grow hg)
      have HQ9 := Lib.hid (HQ7.out.grow hg)
      have HR9 := Lib.hid (HR7.out.grow hg)
      clear hg
      go_wp2_with fail
      refine (bufMissing_any p (blanks N) _ _ _ HB9.out).mono ?_
      rw [HMB.out]
      rintro e w10 ⟨rfl, hg⟩
      have HG10 := Lib.hid (join0 HG9.out hg)
      have HQ10 := Lib.hid (HQ9.out.grow hg)
      have HR10 := Lib.hid (HR9.out.grow hg)
      clear hg
      go_wp2_with fail
      refine (bufSame_any _ _ l l' _ _ _ _ _ HQ10.out.p HR10.out.p).mono ?_
      generalize hsm : decide (norms l = norms l') = y at *
      have HSM := Lib.hid hsm
      clear hsm
      rintro e w11 ⟨rfl, hg⟩
      have HG11 := Lib.hid (join0 HG10.out hg)
      have HQ11 := Lib.hid (HQ10.out.grow hg)
      clear hg
      go_wp2_with fail
      refine (ref3Same_any A A' k k' c c' l l' w11 (H.out.grow HG11.out) (H'.out.grow HG11.out) (by omega) (by omega)).mono ?_
      rw [HSM.out]
      rintro e w12 ⟨rfl, hg⟩
      have HG12 := Lib.hid (join0 HG11.out hg)
      have HQ12 := Lib.hid (HQ11.out.grow hg)
      clear hg
      have hyy : (y == y) = true := by cases y <;> rfl
      go_wp2_with fail
      refine (bufClone_any _ l _ _ _ HQ12.out.p).mono ?_
      rintro e w13 ⟨g13, mp13, A13, c13, rfl, hb, hg⟩
      have HG13 := Lib.hid (join0 HG12.out hg)
      have HQ13 := Lib.hid (HQ12.out.grow hg)
      have HC13 := Lib.hid hb
      clear hg hb
      go_wp2_with fail
      refine (bufSame_any _ _ l l _ _ _ _ _ HQ13.out.p HC13.out.p).mono ?_
      rw [show decide (norms l = norms l) = true from decide_eq_true rfl]
      rintro e w14 ⟨rfl, hg⟩
      have HG14 := Lib.hid (join0 HG13.out hg)
      have HQ14 := Lib.hid (HQ13.out.grow hg)
      clear hg
      go_wp2_with fail
      refine (bufMissing_any _ l _ _ _ HQ14.out.p).mono ?_
      rw [HMQ.out]
      rintro e w15 ⟨rfl, hg⟩
      have HG15 := Lib.hid (join0 HG14.out hg)
      clear hg
      go_wp2_with fail
      refine (HN3.out _).mono ?_
      rintro e w16 ⟨rfl, hg⟩
      have HG16 := Lib.hid (join0 HG15.out hg)
      clear hg
      go_wp2_with fail
      refine (HN4.out _).mono ?_
      rintro e w17 ⟨rfl, hg⟩
      have HG17 := Lib.hid (join0 HG16.out hg)
      clear hg
      have heq := eql_cel yc yc w17
      rw [eqlB_self] at heq
      go_wp2_with fail
      go_ret
      exact ⟨rfl, HG17.out⟩
theorem bufMakes_walk (n most : Int) (A A' : Option Addr) (k k' c c' : Nat) (l l' : List Cel) (w : World) (h : Cels w w.heap.size A k l) (h' : Cels w w.heap.size A' k' l') (hk : k ≤ 9223372036854775807) (hk' : k' ≤ 9223372036854775807) :
    Calls Try.prog 4 #[.int .i64 n, .int .i64 most, .slice A k c, .slice A' k' c'] w fun e w' => e = .returned (.bool true) ∧ Below w.heap.size w w' := by
  by_cases h0 : (5000 < n ∧ n ≤ 1048576) ∨ 200 < k ∨ 200 < k'
  · exact (makes_many n most A A' k k' c c' w h0 hk hk').mono fun e w' ⟨h1, h2⟩ => ⟨h1, below_of_grown h2⟩
  · by_cases h1 : n ≤ 5000
    · exact (makes_small n most A A' k k' c c' l l' w h h' (by omega) (by omega) h1).mono fun e w' ⟨h1, h2⟩ => ⟨h1, below_of_grown h2⟩
    · exact (makes_great n most A A' k k' c c' l l' w h h' (by omega) (by omega) (by omega)).mono fun e w' ⟨h1, h2⟩ => ⟨h1, below_of_grown h2⟩
end Go.Proofs.Ytabkgdichlebmaa
