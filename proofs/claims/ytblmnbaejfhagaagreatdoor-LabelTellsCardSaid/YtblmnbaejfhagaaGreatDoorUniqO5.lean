/-
  Layer 5: the program's Unique, All.
-/
import Derived.Test.YtblmnbaejfhagaaGreatDoorTupO5
import Derived.Test.YtblmnbaejfhagaaGreatDoorUniq5
import Derived.Maps.OwnSet
import Derived.Maps.Views
import Derived.DeepKeys4
namespace Go.Proofs.YtblmnbaejfhagaaGreatDoor
open Go.ChangeShapes Go.WideShapes Go.ChangeAt Go.RowKit Go.Maps
set_option linter.unusedVariables false

set_option maxHeartbeats 2000000 in
theorem ownAll_any (A : Option Addr) (n c : Nat) (l : List Lab) (kind : Int) (w : World) (h : Labs w w.heap.size A n l) (hn : n ≤ 1048576) (hs : ∀ i, i < n → okL (l.getD i noLab)) :
    Calls Tryz.prog 17 #[.slice A n c, .int .u8 kind] w (SaysG (AllP l kind) w) := by
  have H := Lib.hid h
  have HL := Lib.hid h.1
  have HS := Lib.hid hs
  clear h hs
  go_enter Tryz.func17, Tryz.ntmps17
  go_wp2
  go_loopw [9] (fun i wr => ∃ x : Nat, x ≤ n ∧ i = .int .i64 x ∧ (∀ j, j < x → (l.getD j noLab).k = kind ∧ rightE (l.getD j noLab) = true) ∧ w.grownBy wr none) (fun i _ => n - (intOf i).toNat)
  case atStart => exact ⟨0, by omega, rfl, fun i hi => by omega, grown_refl _ _⟩
  case round =>
    obtain ⟨x, hx, rfl, hq, hg⟩ := hrel
    have HQ := Lib.hid hq
    have HG := Lib.hid hg
    clear hq
    by_cases hlt : x < n
    · obtain ⟨b, off, rfl, _, k0, k1, k2⟩ := (H.out.grow hg).at_ hlt
      have HSX := Lib.hid (HS.out x hlt)
      generalize hy : l.getD x noLab = y at *
      have HY := Lib.hid hy
      obtain ⟨yk, yn, ys⟩ := y
      dsimp only at k0 k1 k2
      clear hy hg
      have HRI := Lib.hid (fun w' => ownRight_any yk yn ys w' HSX.out.2.2.2.2 HSX.out.2.2.1 HSX.out.2.2.2.1)
      have i1 : (0 : Int) ≤ (x : Int) := by omega
      have i2 : (x : Int) < (n : Int) := by omega
      go_upto_region 4 with fail
      obtain ⟨W, hW⟩ : ∃ W, W = wr.alloc (.cells #[.int .u8 yk, .int .i64 yn, .string ys] 27) := ⟨_, rfl⟩
      rw [← hW]
      obtain ⟨y0, y1, y2⟩ := cells3 (show Box W wr.heap.size 27 #[.int .u8 yk, .int .i64 yn, .string ys] by rw [hW]; exact Box.fresh _ _ _)
      have HGB := Lib.hid (show w.grownBy W none by rw [hW]; exact grown_alloc HG.out _)
      clear hW k0 k1 k2
      by_cases hk : yk = kind
      · subst hk
        have d1 : (yk != yk) = false := by simp
        go_wp2_with fail
        refine (HRI.out _).mono ?_
        rintro e w2 ⟨rfl, hg⟩
        have HG2 := Lib.hid (grown_join HGB.out hg (.inr (by simp)))
        clear hg
        cases hr : rightE ⟨yk, yn, ys⟩
        · have HR := Lib.hid hr
          clear hr
          go_wp2_with fail
          go_ret
          exact ⟨false, rfl, says_no (fun h => by
            have h2 := (h x (by rw [HL.out]; exact hlt)).2
            rw [HY.out, HR.out] at h2
            cases h2), HG2.out⟩
        · have HR := Lib.hid hr
          clear hr
          go_wp2_with fail
          go_roundw
          case rel => exact ⟨x + 1, by omega, by go_num, fun j hj => by
            by_cases e : j = x
            · subst e; rw [HY.out]; exact ⟨rfl, HR.out⟩
            · exact HQ.out j (by omega), HG2.out⟩
          case measure => simp [intOf]; omega
      · have d1 : (yk != kind) = true := by simp [hk]
        have HK := Lib.hid hk
        clear hk
        go_wp2
        go_ret
        exact ⟨false, rfl, says_no (fun h => by
          have h2 := (h x (by rw [HL.out]; exact hlt)).1
          rw [HY.out] at h2
          exact HK.out h2), HGB.out⟩
    · obtain rfl : n = x := by omega
      go_wp2
      go_ret
      exact ⟨true, rfl, says_yes (fun i hi => HQ.out i (by rw [HL.out] at hi; exact hi)), HG.out⟩

/-! ### labels as keys of a map -/
theorem lab_laidOut : laidOutB Tryz.prog = true := by kernel_rfl
theorem lab_small : 27 < Tryz.prog.types.size := of_decide_eq_true (by kernel_rfl)
set_option maxRecDepth 100000 in
theorem lab_wide : (match Tryz.prog.underlying 27 with | some (.array _ _) | some (.struct _) => true | _ => false) = true := by rw [Tryz.underlying27]
set_option maxRecDepth 100000 in
theorem lab_keyed : Keyed Tryz.prog 27 := Keyed.of_law (deep_law_laid lab_laidOut (m := 2) (by omega) lab_small (by kernel_rfl) lab_wide)
theorem lab_cells3 : Tryz.prog.cellsOf 27 = 3 := by kernel_rfl
set_option maxRecDepth 100000 in
theorem lab_key (a : Lab) (h : okL a) : ∃ kl, keyOf Tryz.prog 27 (labO a) = some kl := by
  obtain ⟨k, n, s⟩ := a
  obtain ⟨h1, h2, h3, h4, h5⟩ := h
  dsimp only at h1 h2 h3 h4 h5
  have hu := Tryz.underlying27
  have hf : (labO ⟨k, n, s⟩).formed Tryz.prog 27 = true := by simp [labO, Value.formed, hu, lab_cells3]
  have hk : Tryz.prog.keyType 27 = true := by kernel_rfl
  obtain ⟨D, hD⟩ : ∃ D, Tryz.prog.types.size = D + 1 := ⟨Tryz.prog.types.size - 1, by have := lab_small; omega⟩
  have w0 : (Lit.int .u8 k).wf = true := by
    have e1 : IntKind.u8.min = 0 := by decide
    have e2 : IntKind.u8.max = 255 := by decide
    simp [Lit.wf, e1, e2]; omega
  have w1 : (Lit.int .i64 n).wf = true := by
    have e1 : IntKind.i64.min = -9223372036854775808 := by decide
    have e2 : IntKind.i64.max = 9223372036854775807 := by decide
    simp [Lit.wf, e1, e2]; omega
  have w2 : s.size ≤ maxLen := by unfold maxLen; omega
  have q0 : Tryz.prog.keyLits (D + 1) 5 [.int .u8 k] = some [.int .u8 k] := by
    unfold Program.keyLits; rw [Tryz.underlying5]; simp [w0]
  have q1 : Tryz.prog.keyLits (D + 1) 2 [.int .i64 n] = some [.int .i64 n] := by
    unfold Program.keyLits; rw [Tryz.underlying2]; simp [w1]
  have q2 : Tryz.prog.keyLits (D + 1) 9 [.string s] = some [.string s.data.toList] := by
    unfold Program.keyLits; rw [Tryz.underlying9]; simp [w2]
  have c0 : Tryz.prog.cellsOf 5 = 1 := by kernel_rfl
  have c1 : Tryz.prog.cellsOf 2 = 1 := by kernel_rfl
  have c2 : Tryz.prog.cellsOf 9 = 1 := by kernel_rfl
  unfold keyOf
  rw [hu]
  simp only [hk, hf, Bool.and_self, if_true, hD]
  unfold Program.keyLits
  rw [hu]
  simp [labO, Value.cells, lab_cells3, c0, c1, c2, q0, q1, q2]
/-- what a label reads as, as a key. -/
noncomputable def keyL (a : Lab) : Lit := (keyOf Tryz.prog 27 (labO a)).getD (.bool false)
set_option maxRecDepth 100000 in
theorem keyL_of {a : Lab} (h : okL a) : keyOf Tryz.prog 27 (labO a) = some (keyL a) := by
  obtain ⟨kl, hk⟩ := lab_key a h
  unfold keyL
  rw [hk]; rfl
set_option maxRecDepth 100000 in
theorem keyL_lit {a : Lab} (h : okL a) : WideAt.IsKeyLit (keyL a) := lab_keyed.key (keyL_of h)
set_option maxRecDepth 100000 in
theorem keyL_inj {a b : Lab} (ha : okL a) (hb : okL b) (h : keyL a = keyL b) : a = b := by
  have h1 := keyL_of ha
  have h2 := keyL_of hb
  rw [h] at h1
  have h3 := lab_keyed.inj h1 h2
  obtain ⟨k, n, s⟩ := a
  obtain ⟨k', n', s'⟩ := b
  unfold labO at h3
  simp at h3
  obtain ⟨e1, e2, e3⟩ := h3
  rw [e1, e2, e3]

/-! ### how many keys a set has -/
theorem keys_le : ∀ (xs acc : List Lit), (xs.foldl addKey acc).length ≤ acc.length + xs.length
  | [], acc => Nat.le_refl _
  | x :: xs, acc => by
    have ih := keys_le xs (addKey acc x)
    have hl : (addKey acc x).length ≤ acc.length + 1 := by
      unfold addKey; split
      · omega
      · simp
    rw [List.foldl_cons, List.length_cons]; omega
theorem keys_all : ∀ (xs acc : List Lit), (∀ x ∈ xs, WideAt.IsKeyLit x) → (∀ x ∈ acc, WideAt.IsKeyLit x) → ((xs.foldl addKey acc).length = acc.length + xs.length ↔ xs.Nodup ∧ ∀ x ∈ xs, x ∉ acc)
  | [], acc, _, _ => by simp
  | x :: xs, acc, hx, ha => by
    rw [List.foldl_cons, List.length_cons]
    by_cases hm : x ∈ acc
    · have e : addKey acc x = acc := by
        have hh : (acc.any fun y => y.sameKey x) = true := List.any_eq_true.2 ⟨x, hm, WideAt.sameKey_self (ha x hm)⟩
        unfold addKey
        rw [if_pos hh]
      have := keys_le xs acc
      rw [e]
      exact ⟨fun h => by omega, fun h => absurd hm (h.2 x (by simp))⟩
    · have e : addKey acc x = acc ++ [x] := by
        unfold addKey
        rw [if_neg ?_]
        intro h
        obtain ⟨y, hy, hs⟩ := List.any_eq_true.1 h
        exact hm (WideAt.sameKey_eq hs ▸ hy)
      rw [e]
      have ih := keys_all xs (acc ++ [x]) (fun y hy => hx y (by simp [hy])) (fun y hy => by
        rcases List.mem_append.1 hy with h | h
        · exact ha y h
        · rw [List.mem_singleton.1 h]; exact hx x (by simp))
      rw [List.length_append, List.length_singleton] at ih
      rw [show acc.length + (xs.length + 1) = acc.length + 1 + xs.length by omega, ih, List.nodup_cons]
      constructor
      · rintro ⟨h1, h2⟩
        refine ⟨⟨fun h => h2 x h (by simp), h1⟩, fun y hy => ?_⟩
        rcases List.mem_cons.1 hy with rfl | hy
        · exact hm
        · exact fun h => h2 y hy (by simp [h])
      · rintro ⟨⟨h1, h2⟩, h3⟩
        refine ⟨h2, fun y hy h => ?_⟩
        rcases List.mem_append.1 h with h | h
        · exact h3 y (by simp [hy]) h
        · rw [List.mem_singleton.1 h] at hy; exact h1 hy
set_option maxRecDepth 100000 in
theorem uniq_keys (l : List Lab) (h : ∀ a ∈ l, okL a) : (size (setOf (H := Unit) (.agg []) (l.map keyL)) = l.length ↔ UniqP l) := by
  have hk : ∀ x ∈ l.map keyL, WideAt.IsKeyLit x := fun x hx => by
    obtain ⟨a, ha, rfl⟩ := List.mem_map.1 hx
    exact keyL_lit (h a ha)
  have h1 := keys_all (l.map keyL) [] hk (by simp)
  rw [size_setOf _ _ hk]
  simp only [List.length_nil, Nat.zero_add, List.length_map] at h1
  rw [h1]
  have h2 : (l.map keyL).Nodup ↔ UniqP l := by
    unfold List.Nodup UniqP
    rw [List.pairwise_map, List.pairwise_iff_getElem]
    constructor
    · intro hp i hi k hki e
      have := hp k i (by omega) hi hki
      rw [List.getD_eq_getElem?_getD, List.getD_eq_getElem?_getD, List.getElem?_eq_getElem hi, List.getElem?_eq_getElem (by omega)] at e
      exact this (by simpa using congrArg keyL e.symm)
    · intro hu i j hi hj hij e
      have := hu j hj i hij
      rw [List.getD_eq_getElem?_getD, List.getD_eq_getElem?_getD, List.getElem?_eq_getElem hi, List.getElem?_eq_getElem hj] at this
      exact this (keyL_inj (h _ (List.getElem_mem hj)) (h _ (List.getElem_mem hi)) e.symm)
  rw [h2]
  exact ⟨fun h => h.1, fun h => ⟨h, by simp⟩⟩

/-! ### Unique -/
set_option maxRecDepth 100000 in
theorem make_set (n : Int) (w : World) : (Instr.makeMap 55 (some (.int .i64 n))).run Tryz.prog w = .ok (.map (some w.heap.size)) (w.alloc (.map #[] 0)) := by
  simp [Instr.makeMap, run_underlying Tryz.underlying55, asInt, asIntOf, Result.andThen]
set_option maxRecDepth 100000 in
set_option maxHeartbeats 2000000 in
theorem ownUnique_any (A : Option Addr) (n c : Nat) (l : List Lab) (w : World) (h : Labs w w.heap.size A n l) (hn : n ≤ 1048576) (hs : ∀ i, i < n → okL (l.getD i noLab)) :
    Calls Tryz.prog 15 #[.slice A n c] w (SaysG (UniqP l) w) := by
  have H := Lib.hid h
  have HL := Lib.hid h.1
  have HS := Lib.hid hs
  have hmm := make_set
  clear h hs
  go_enter Tryz.func15, Tryz.ntmps15
  go_wp2
  go_loopw [11] (fun v11 wr => ∃ x : Nat, x ≤ n ∧ v11 = .int .i64 (x : Int) ∧ wr.ownsMap Tryz.prog 27 (unitElem (H := Unit)) w.heap.size x (setOf (.agg []) ((l.take x).map keyL)) ∧ Below w.heap.size w wr) (fun v11 _ => n - (intOf v11).toNat)
  case atStart => exact ⟨0, by omega, rfl, World.ownsMap_made _ _ _ _, below_alloc (Nat.le_refl _) _⟩
  case round =>
    obtain ⟨x, hx, rfl, hown, hb⟩ := hrel
    have HO := Lib.hid hown
    have HB := Lib.hid hb
    clear hown hb
    by_cases hlt : x < n
    · obtain ⟨b, off, rfl, _, k0, k1, k2⟩ := (H.out.grow (grown_of_below HB.out)).at_ hlt
      have HKY := Lib.hid (keyL_of (HS.out x hlt))
      have HTK := Lib.hid (show (l.take (x + 1)).map keyL = (l.take x).map keyL ++ [keyL (l.getD x noLab)] by
        rw [List.take_succ_eq_append_getElem (by rw [HL.out]; exact hlt), List.map_append, List.map_singleton, List.getD_eq_getElem?_getD, List.getElem?_eq_getElem (by rw [HL.out]; exact hlt)]; rfl)
      generalize l.getD x noLab = y at *
      obtain ⟨yk, yn, ys⟩ := y
      dsimp only at k0 k1 k2
      have i1 : (0 : Int) ≤ (x : Int) := by omega
      have i2 : (x : Int) < (n : Int) := by omega
      go_upto_region 5 with fail
      obtain ⟨W, hW⟩ : ∃ W, W = wr.alloc (.cells #[.int .u8 yk, .int .i64 yn, .string ys] 27) := ⟨_, rfl⟩
      rw [← hW]
      obtain ⟨y0, y1, y2⟩ := cells3 (show Box W wr.heap.size 27 #[.int .u8 yk, .int .i64 yn, .string ys] by rw [hW]; exact Box.fresh _ _ _)
      have HBW := Lib.hid (show Below w.heap.size w W by rw [hW]; exact HB.out.trans (below_alloc HB.out.size _))
      have HOW := Lib.hid (show W.ownsMap Tryz.prog 27 (unitElem (H := Unit)) w.heap.size x (setOf (.agg []) ((l.take x).map keyL)) by rw [hW]; exact HO.out.alloc _)
      clear hW k0 k1 k2
      go_wp2_with (at_mapUpdate; refine wpList_mapUpdate_own _ rfl _ _ _ 55 rfl 27 56 lab_keyed Tryz.underlying55 (unitElem (H := Unit)) w.heap.size x _ rfl HOW.out (by unfold maxLen; omega) _ _ _ rfl rfl HKY.out _ [] unitElem_mk ?_; intro w4 hown4 hg4; have HO4 := Lib.hid hown4; have HG4 := Lib.hid hg4; clear hown4 hg4)
      go_roundw
      case rel => exact ⟨x + 1, by omega, by go_num, by rw [HTK.out, setOf_snoc]; exact HO4.out, HBW.out.trans (below_of_grown_row HG4.out HBW.out.size (fun y hy => by injection hy with hy; omega))⟩
      case measure => simp [intOf]; omega
    · obtain rfl : n = x := by omega
      have HTA := Lib.hid (show l.take n = l by rw [← HL.out, List.take_length])
      rw [HTA.out] at HO
      have HU := Lib.hid (uniq_keys l (fun a ha => by
        obtain ⟨i, hi, rfl⟩ := List.mem_iff_getElem.1 ha
        have := HS.out i (by rw [← HL.out]; exact hi)
        rw [List.getD_eq_getElem?_getD, List.getElem?_eq_getElem hi] at this
        exact this))
      rw [HL.out] at HU
      go_wp2_with (at_len; refine wpList_len_own _ rfl _ 55 rfl 27 56 Tryz.underlying55 (unitElem (H := Unit)) w.heap.size n _ rfl HO.out ?_)
      generalize size (setOf (H := Unit) (.agg []) (l.map keyL)) = z at *
      go_ret
      refine ⟨_, rfl, ?_, grown_of_below HB.out⟩
      rw [← HU.out]
      simp
      omega
theorem uniqueSays : UniqueSays := fun A n c l w h hn hs => ownUnique_any A n c l w h hn hs
theorem allSays : AllSays := fun A n c l kind w h hn hs _ _ => ownAll_any A n c l kind w h hn hs
end Go.Proofs.YtblmnbaejfhagaaGreatDoor
