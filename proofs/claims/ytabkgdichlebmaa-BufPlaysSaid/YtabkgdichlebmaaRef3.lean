/-
  The reference's Norm, Same, New, Copy; the law package's put.
-/
import Derived.Test.YtabkgdichlebmaaMoves
import Derived.Laws.StructEq
import Derived.Laws.AppendOwnNone
namespace Go.Proofs.Ytabkgdichlebmaa
open Go.ChangeShapes Go.WideShapes Go.ChangeAt Go.RowKit
set_option linter.unusedVariables false

theorem ref3Norm_any (c : Cel) (w : World) : Calls Try.prog 15 #[.agg #[.int .i64 c.v, .bool c.ok]] w (Gave (.agg #[.int .i64 c.norm.v, .bool c.norm.ok]) w) := by
  obtain ⟨v, ok⟩ := c
  cases ok
  · go_enter Try.func15, Try.ntmps15
    go_wp2_with fail
    exact bodyPost_ret (v := .agg #[.int .i64 0, .bool false]) (by simp [results, Try.results15, go_sem]) rfl ⟨rfl, grown_alloc (grown_alloc (grown_refl _ _) _) _⟩
  · go_enter Try.func15, Try.ntmps15
    go_wp2_with fail
    exact bodyPost_ret (v := .agg #[.int .i64 v, .bool true]) (by simp [results, Try.results15, go_sem]) rfl ⟨rfl, grown_alloc (grown_alloc (grown_refl _ _) _) _⟩
def neqB (x y : Cel) : Bool := decide (x ≠ y)
theorem neq_cel (x y : Cel) (w : World) : (binOp .neq 30 (.agg #[.int .i64 x.v, .bool x.ok]) (.agg #[.int .i64 y.v, .bool y.ok])).run Try.prog w = .ok (.bool (neqB x y)) w := by
  have e : (decide (x.v = y.v) && (x.ok == y.ok)) = decide (x = y) := by
    obtain ⟨a, b⟩ := x
    obtain ⟨c, d⟩ := y
    rw [Bool.eq_iff_iff]
    simp
  have hu := Try.underlying30
  have hf : Try.prog.fieldsOf 30 = (match Try.prog.underlying 30 with | some (.struct fs) => fs | _ => #[]) := rfl
  rw [hu] at hf
  rw [run_neq_struct, run_equalIn_agg w 9999 _ _ _ (by kernel_rfl) (by kernel_rfl), hf]
  have q1 := fun w => run_equalIn_int (P := Try.prog) w 9998 2 .i64 .i64 x.v y.v Try.underlying2
  have q2 := fun w => run_equalIn_bool' (P := Try.prog) w 9998 4 x.ok y.ok Try.underlying4
  unfold neqB
  simp [Op.eqFields, go_sem, q1, q2]
  obtain ⟨a, b⟩ := x
  obtain ⟨c, d⟩ := y
  by_cases h1 : a = c <;> by_cases h2 : b = d <;> simp [h1, h2]
theorem four_keep {w w' : World} {p1 p2 p3 p4 : Addr} {v1 v2 v3 v4 : Value} (h : w.cell? p1 = some v1 ∧ w.cell? p2 = some v2 ∧ w.cell? p3 = some v3 ∧ w.cell? p4 = some v4) (hg : w.grownBy w' none) :
    w'.cell? p1 = some v1 ∧ w'.cell? p2 = some v2 ∧ w'.cell? p3 = some v3 ∧ w'.cell? p4 = some v4 := by
  have k : ∀ {p : Addr} {v : Value}, w.cell? p = some v → w'.cell? p = some v := fun {p v} hp => (World.cell?_of_block (hg.block p.block (World.block_lt_of_cell? w _ hp) (by simp))).trans hp
  exact ⟨k h.1, k h.2.1, k h.2.2.1, k h.2.2.2⟩
theorem four_keepN {w w' : World} {k : Nat} {p1 p2 p3 p4 : Addr} {v1 v2 v3 v4 : Value} (h : w.cell? p1 = some v1 ∧ w.cell? p2 = some v2 ∧ w.cell? p3 = some v3 ∧ w.cell? p4 = some v4) (hg : (w.drewN k).grownBy w' none) :
    w'.cell? p1 = some v1 ∧ w'.cell? p2 = some v2 ∧ w'.cell? p3 = some v3 ∧ w'.cell? p4 = some v4 := four_keep (w := w.drewN k) h hg
theorem joinN {a b c : World} {k : Nat} (h : a.grownBy b none) (hg : (b.drewN k).grownBy c none) : a.grownBy c none := grown_join (grown_drewN h k) hg (.inr (by simp))
theorem join0 {a b c : World} (h : a.grownBy b none) (hg : b.grownBy c none) : a.grownBy c none := grown_join h hg (.inr (by simp))
set_option maxHeartbeats 2000000 in
theorem ref3Same_any (A A' : Option Addr) (n n' c c' : Nat) (l l' : List Cel) (w : World) (h : Cels w w.heap.size A n l) (h' : Cels w w.heap.size A' n' l') (hn : n ≤ 1048576) (hn' : n' ≤ 1048576) :
    Calls Try.prog 16 #[.slice A n c, .slice A' n' c'] w (Gave (.bool (decide (norms l = norms l'))) w) := by
  have H := Lib.hid h
  have H' := Lib.hid h'
  have HN := Lib.hid h.1
  have HN' := Lib.hid h'.1
  clear h h'
  by_cases hnn : n = n'
  · subst hnn
    go_enter Try.func16, Try.ntmps16
    go_wp2
    go_loopw [5] (fun i wr => ∃ x : Nat, x ≤ n ∧ i = .int .i64 x ∧ (∀ j, j < x → (l.getD j noCel).norm = (l'.getD j noCel).norm) ∧ w.grownBy wr none) (fun i _ => n - (intOf i).toNat)
    case atStart => exact ⟨0, by omega, rfl, fun i hi => by omega, grown_refl _ _⟩
    case round =>
      obtain ⟨x, hx, rfl, hq, hg⟩ := hrel
      have HQ := Lib.hid hq
      clear hq
      by_cases hlt : x < n
      · obtain ⟨b, off, rfl, _, hc1, hc2⟩ := (H.out.below (below_of_grown hg)).at_ hlt
        obtain ⟨b', off', rfl, _, hd1, hd2⟩ := (H'.out.below (below_of_grown hg)).at_ hlt
        have HG := Lib.hid hg
        have HC := Lib.hid (And.intro hc1 (And.intro hc2 (And.intro hd1 hd2)))
        clear hg
        generalize h1 : l.getD x noCel = y at *
        generalize h2 : l'.getD x noCel = z at *
        have H1 := Lib.hid h1
        have H2 := Lib.hid h2
        clear h1 h2
        obtain ⟨yn, hyn⟩ : ∃ q, q = y.norm := ⟨_, rfl⟩
        obtain ⟨zn, hzn⟩ : ∃ q, q = z.norm := ⟨_, rfl⟩
        have N1 := Lib.hid (ref3Norm_any y)
        have N2 := Lib.hid (ref3Norm_any z)
        rw [← hyn] at N1
        rw [← hzn] at N2
        have HY := Lib.hid hyn
        have HZ := Lib.hid hzn
        clear hyn hzn
        have hne := neq_cel yn zn
        obtain ⟨yv, yo⟩ := y
        obtain ⟨zv, zo⟩ := z
        cases hqb : neqB yn zn
        · rw [hqb] at hne
          have HE := Lib.hid (show yn = zn by simpa [neqB] using hqb)
          clear hqb
          go_wp2_with fail
          go_region_held3 (fun w' => w'.cell? ⟨b, off + x * 2, none⟩ = some (.int .i64 yv) ∧ w'.cell? ⟨b, off + x * 2 + 1, none⟩ = some (.bool yo) ∧ w'.cell? ⟨b', off' + x * 2, none⟩ = some (.int .i64 zv) ∧ w'.cell? ⟨b', off' + x * 2 + 1, none⟩ = some (.bool zo)) (first | go_keep | exact KEEP2.out | exact KEEP.out) (first
            | (go_at_call 15; refine (N1.out _).mono ?_; rintro e w3 ⟨rfl, hg3⟩; have HG3 := Lib.hid (join0 HG2.out hg3); have KEEP2 := Lib.hid (four_keep KEEP.out hg3); clear hg3)
            | (go_at_call 15; refine (N2.out _).mono ?_; rintro e w3 ⟨rfl, hg3⟩; have HG3 := Lib.hid (join0 HG2.out hg3); have KEEP2 := Lib.hid (four_keep KEEP.out hg3); clear hg3)
            | (go_at_call 15; refine (N1.out _).mono ?_; rintro e w2 ⟨rfl, hg2⟩; have HG2 := Lib.hid (joinN HG.out hg2); have KEEP := Lib.hid (four_keepN HC.out hg2); clear hg2)
            | (go_at_call 15; refine (N2.out _).mono ?_; rintro e w2 ⟨rfl, hg2⟩; have HG2 := Lib.hid (joinN HG.out hg2); have KEEP := Lib.hid (four_keepN HC.out hg2); clear hg2))
          all_goals go_wp2
          all_goals go_roundw
          case rel => exact ⟨x + 1, by omega, by go_num, fun j hj => by
            by_cases hjx : j = x
            · subst hjx; rw [H1.out, H2.out, ← HY.out, ← HZ.out]; exact HE.out
            · exact HQ.out j (by omega), HG3.out⟩
          case measure => simp [intOf]; omega
        · rw [hqb] at hne
          have HE := Lib.hid (show ¬ yn = zn by simpa [neqB] using hqb)
          clear hqb
          go_wp2_with fail
          go_region_held3 (fun w' => w'.cell? ⟨b, off + x * 2, none⟩ = some (.int .i64 yv) ∧ w'.cell? ⟨b, off + x * 2 + 1, none⟩ = some (.bool yo) ∧ w'.cell? ⟨b', off' + x * 2, none⟩ = some (.int .i64 zv) ∧ w'.cell? ⟨b', off' + x * 2 + 1, none⟩ = some (.bool zo)) (first | go_keep | exact KEEP2.out | exact KEEP.out) (first
            | (go_at_call 15; refine (N1.out _).mono ?_; rintro e w3 ⟨rfl, hg3⟩; have HG3 := Lib.hid (join0 HG2.out hg3); have KEEP2 := Lib.hid (four_keep KEEP.out hg3); clear hg3)
            | (go_at_call 15; refine (N2.out _).mono ?_; rintro e w3 ⟨rfl, hg3⟩; have HG3 := Lib.hid (join0 HG2.out hg3); have KEEP2 := Lib.hid (four_keep KEEP.out hg3); clear hg3)
            | (go_at_call 15; refine (N1.out _).mono ?_; rintro e w2 ⟨rfl, hg2⟩; have HG2 := Lib.hid (joinN HG.out hg2); have KEEP := Lib.hid (four_keepN HC.out hg2); clear hg2)
            | (go_at_call 15; refine (N2.out _).mono ?_; rintro e w2 ⟨rfl, hg2⟩; have HG2 := Lib.hid (joinN HG.out hg2); have KEEP := Lib.hid (four_keepN HC.out hg2); clear hg2))
          all_goals go_wp2
          all_goals go_ret
          refine gave_eq ?_ HG3.out
          congr 1
          refine decide_eq_false fun e => HE.out ?_
          rw [HY.out, HZ.out, ← H1.out, ← H2.out, ← norms_get, ← norms_get, e]
      · obtain rfl : x = n := by omega
        have HG := Lib.hid hg
        clear hg
        go_wp2
        go_ret
        refine gave_eq ?_ HG.out
        congr 1
        refine decide_eq_true ?_
        refine cels_eq (by rw [norms_length, norms_length, HN.out, HN'.out]) fun i hi => ?_
        rw [norms_length, HN.out] at hi
        rw [norms_get, norms_get]
        exact HQ.out i hi
  · have hne : ((n : Int) != (n' : Int)) = true := by simp; omega
    have HNN := Lib.hid hnn
    clear hnn
    go_enter Try.func16, Try.ntmps16
    go_wp2
    go_ret
    refine gave_eq ?_ (grown_refl _ _)
    congr 1
    refine decide_eq_false fun e => HNN.out ?_
    have := congrArg List.length e
    rw [norms_length, norms_length, HN.out, HN'.out] at this
    exact this

/-! ### New -/
def newN (n most : Int) : Nat := if newE n most = 0 then n.toNat else 0
def New3 (n most : Int) (w : World) (e : Ending) (w' : World) : Prop := ∃ A c, e = .returned (.tuple #[.slice A (newN n most) c, .int .i64 (newE n most)]) ∧ w.grownBy w' none
theorem make_rcels (m : Nat) (hm : m ≤ 1048576) : ∃ Z : Array Value, Z.toList = celV (blanks m) ∧ ∀ W : World, (Instr.makeSlice 22 (.int .i64 (m : Int)) (.int .i64 (m : Int))).run Try.prog W = .ok (.slice (some ⟨W.heap.size, 0, none⟩) m m) (W.alloc (.cells Z 30)) := by
  obtain ⟨i0, hi, hz0, hz1, hz2⟩ := info_parts info_rcel
  refine ⟨madeCells (Value.agg #[.int .i64 0, .bool false]).cells (m * i0.size), by rw [hz1]; exact blank_cels m, fun W => ?_⟩
  have h := run_make (P := Try.prog) W 22 30 i0 _ Try.underlying22 hi hz0 .i64 .i64 (m : Int) (m : Int) (by omega) (by omega) (by rw [hz2]; omega) (by omega)
  simpa using h
theorem ref3New_any (n most : Int) (w : World) : Calls Try.prog 20 #[.int .i64 n, .int .i64 most] w (New3 n most w) := by
  obtain ⟨m0, hm0⟩ : ∃ m, m = (if most < 0 then 0 else most) := ⟨_, rfl⟩
  obtain ⟨m, hm⟩ : ∃ m, m = (if 1048576 < m0 then 1048576 else m0) := ⟨_, rfl⟩
  have hcap : m = min (max most 0) 1048576 := by
    rw [hm, hm0]
    split <;> split <;> omega
  have e0 := hm0.symm
  have e1 := hm.symm
  clear hm0 hm
  by_cases h1 : m < n
  · have HE := Lib.hid (show newE n most = 7 by unfold newE; rw [← hcap, if_pos h1])
    have HK := Lib.hid (show newN n most = 0 by unfold newN; rw [HE.out]; rfl)
    clear hcap
    go_enter Try.func20, Try.ntmps20
    go_wp2
    go_ret2
    exact ⟨none, 0, by rw [HE.out, HK.out]; rfl, grown_refl _ _⟩
  · by_cases h2 : n < 0
    · have HE := Lib.hid (show newE n most = 5 by unfold newE; rw [← hcap, if_neg h1, if_pos h2])
      have HK := Lib.hid (show newN n most = 0 by unfold newN; rw [HE.out]; rfl)
      clear hcap
      go_enter Try.func20, Try.ntmps20
      go_wp2
      go_ret2
      exact ⟨none, 0, by rw [HE.out, HK.out]; rfl, grown_refl _ _⟩
    · have HE := Lib.hid (show newE n most = 0 by unfold newE; rw [← hcap, if_neg h1, if_neg h2])
      have hle : n ≤ 1048576 := by omega
      obtain ⟨N, rfl⟩ : ∃ N : Nat, n = N := ⟨n.toNat, by omega⟩
      have HK := Lib.hid (show newN (N : Int) most = N by unfold newN; rw [HE.out]; rfl)
      obtain ⟨Z, hZ, hmk⟩ := make_rcels N (by omega)
      clear hcap hZ
      go_enter Try.func20, Try.ntmps20
      go_wp2
      go_ret2
      exact ⟨some ⟨w.heap.size, 0, none⟩, N, by rw [HE.out, HK.out]; rfl, World.grownBy_alloc _ _ _⟩
end Go.Proofs.Ytabkgdichlebmaa
