/-
  Layer 4: order's Sort.
-/
import Derived.Test.YtffobpbpdnamnaaRuns4
import Derived.Deep.DeepCutAuto
import Derived.Laws.EntriesVeiled
namespace Go.Proofs.Ytffobpbpdnamnaa
open Go.ChangeShapes Go.WideShapes Go.ChangeAt Go.RowKit
set_option linter.unusedVariables false

theorem cell_al {w : World} {p : Addr} {v : Value} {o : Obj} (h : w.cell? p = some v) : (w.alloc o).cell? p = some v := (World.cell?_of_block (Below.heap_alloc w o p.block (World.block_lt_of_cell? w p h))).trans h
theorem cell_dr {w : World} {p : Addr} {v : Value} (h : w.cell? p = some v) : w.drew.cell? p = some v := h
theorem cell_st {w : World} {p q : Addr} {u v : Value} (h : w.cell? p = some v) (hne : q ≠ p) : (w.setCell q u).cell? p = some v := by rw [World.cell?_setCell_other _ _ _ _ hne]; exact h
/-- what stands behind the making of the two rows. -/
def Made4 (w : World) (A : Option Addr) (n c : Nat) (f : FuncId) (v5 v6 : Value) (w' : World) : Prop :=
  ∃ b5 b6 R S : Nat, v5 = .pointer (some ⟨b5, 0, none⟩) ∧ v6 = .pointer (some ⟨b6, 0, none⟩) ∧ Box w' w.heap.size 22 #[.slice A n c] ∧ Box w' (w.heap.size + 1) 29 #[.func (.func f) #[] #[]] ∧
    Box w' b5 22 #[.slice (some ⟨R, 0, none⟩) n n] ∧ Box w' b6 22 #[.slice (some ⟨S, 0, none⟩) n n] ∧ Whole w' R (tabI n fun _ => 0) ∧ Whole w' S (tabI n fun _ => 0) ∧ w.heap.size ≤ R ∧ w.heap.size ≤ S ∧ R ≠ S ∧ Below w.heap.size w w'
theorem heap4 (W : World) (o0 o1 o2 o3 : Obj) : ∃ w', w' = ((((W.alloc o0).alloc o1).alloc o2).alloc o3).drew ∧ w'.heap[W.heap.size]? = some o0 ∧ w'.heap[W.heap.size + 1]? = some o1 ∧ w'.heap[W.heap.size + 1 + 1]? = some o2 ∧ w'.heap[W.heap.size + 1 + 1 + 1]? = some o3 ∧ W.grownBy w' none := by
  refine ⟨_, rfl, ?_, ?_, ?_, ?_, ?_⟩
  · show ((((W.alloc o0).alloc o1).alloc o2).alloc o3).heap[W.heap.size]? = _
    rw [Below.heap_alloc _ _ _ (by simp; omega), Below.heap_alloc _ _ _ (by simp; omega), Below.heap_alloc _ _ _ (by simp)]
    exact heap_alloc_new W o0
  · show ((((W.alloc o0).alloc o1).alloc o2).alloc o3).heap[W.heap.size + 1]? = _
    rw [Below.heap_alloc _ _ _ (by simp), Below.heap_alloc _ _ _ (by simp)]
    have := heap_alloc_new (W.alloc o0) o1
    simpa using this
  · show ((((W.alloc o0).alloc o1).alloc o2).alloc o3).heap[W.heap.size + 1 + 1]? = _
    rw [Below.heap_alloc _ _ _ (by simp)]
    have := heap_alloc_new ((W.alloc o0).alloc o1) o2
    simpa using this
  · show ((((W.alloc o0).alloc o1).alloc o2).alloc o3).heap[W.heap.size + 1 + 1 + 1]? = _
    have := heap_alloc_new (((W.alloc o0).alloc o1).alloc o2) o3
    simpa using this
  · exact grown_drew (grown_alloc (grown_alloc (grown_alloc (World.grownBy_alloc W o0 none) _) _) _)
theorem made_mk {w W w' : World} {A : Option Addr} {n c : Nat} {f : FuncId} {Z : Array Value} {b5 b6 R S : Nat} (hZ : Z.toList = intV (tabI n fun _ => 0)) (h2 : Box W w.heap.size 22 #[.slice A n c]) (h3 : Box W (w.heap.size + 1) 29 #[.func (.func f) #[] #[]])
    (hb : Below w.heap.size w W) (hg : W.grownBy w' none) (h5 : w'.heap[b5]? = some (.cells #[.slice (some ⟨R, 0, none⟩) n n] 22 (0, 0))) (h6 : w'.heap[b6]? = some (.cells #[.slice (some ⟨S, 0, none⟩) n n] 22 (0, 0)))
    (hR : w'.heap[R]? = some (.cells Z 3 (0, 0))) (hS : w'.heap[S]? = some (.cells Z 3 (0, 0))) (hbR : w.heap.size ≤ R) (hbS : w.heap.size ≤ S) (hRS : R ≠ S) : Made4 w A n c f (.pointer (some ⟨b5, 0, none⟩)) (.pointer (some ⟨b6, 0, none⟩)) w' := by
  have hz : (intV (tabI n fun _ => 0)).toArray = Z := by rw [← hZ]
  refine ⟨b5, b6, R, S, rfl, rfl, h2.grown hg (by simp), h3.grown hg (by simp), h5, h6, ?_, ?_, hbR, hbS, hRS, hb.trans (below_of_grown_row hg hb.size (by simp))⟩
  · unfold Whole; rw [hz]; exact hR
  · unfold Whole; rw [hz]; exact hS
/-- the places in their order by K are told, new. -/
def Sorted4K (K : Int → Int) (l : List Int) (w : World) (e : Ending) (w' : World) : Prop := ∃ p, InOrder (atK K l) l.length p ∧ GaveInts (placesI p) w e w'
set_option maxHeartbeats 4000000 in
theorem ord4Sort_any (g : Value) (f : FuncId) (K : Int → Int) (A : Option Addr) (n c : Nat) (l : List Int) (w : World) (hg : g = .nilFunc ∨ g = .func (.func f) #[] #[]) (hG : GivenCmp g f K) (h : Nums w w.heap.size A n l) (hn : n ≤ 1048576) :
    Calls Try.prog 12 #[.slice A n c, g] w (Sorted4K K l w) := by
  have H := Lib.hid h
  have HL := Lib.hid h.1
  have HG := Lib.hid hG
  obtain ⟨Z, hZ, hmk⟩ := make_ints n hn
  have HZ := Lib.hid hZ
  clear h hG hZ
  rcases hg with rfl | rfl
  all_goals
    go_enter Try.func12, Try.ntmps12
    go_upto_region 2 with (go_at_call 24; refine (HG.out.2 _).mono ?_; rintro e w' ⟨rfl, rfl⟩)
    go_cut [5, 6] (fun v5 v6 w' => Made4 w A n c f v5 v6 w')
    case first =>
      obtain ⟨W, hW⟩ : ∃ W, W = (w.alloc (.cells #[.slice A n c] 22)).alloc (.cells #[.func (.func f) #[] #[]] 29) := ⟨_, rfl⟩
      have hsz : W.heap.size = w.heap.size + 2 := by rw [hW]; simp
      have hbx2 : Box W w.heap.size 22 #[.slice A n c] := by rw [hW]; exact (Box.fresh w _ _).alloc _
      have hbx3 : Box W (w.heap.size + 1) 29 #[.func (.func f) #[] #[]] := by
        have h1 := Box.fresh (w.alloc (.cells #[.slice A n c] 22)) 29 #[.func (.func f) #[] #[]]
        rw [hW]
        simpa using h1
      have hbw : Below w.heap.size w W := by rw [hW]; exact ((Below.refl _ _).alloc (Nat.le_refl _) _).alloc (by simp) _
      rw [← hW]
      have hc2 : W.cell? ⟨w.heap.size, 0, none⟩ = some (.slice A n c) := hbx2.get 0
      have hne := World.new_ne W ⟨w.heap.size, 0, none⟩ hc2
      have hlt : w.heap.size < W.heap.size := by omega
      have HSZ := Lib.hid hsz
      have HX2 := Lib.hid hbx2
      have HX3 := Lib.hid hbx3
      have HBW := Lib.hid hbw
      clear hW hsz hbx2 hbx3 hbw
      go_region_held3 (fun w' => w'.cell? ⟨w.heap.size, 0, none⟩ = some (.slice A n c)) ((repeat (first | exact hc2 | refine cell_dr ?_ | refine cell_al ?_ | refine cell_st ?_ (by intro e; injection e with e; simp at e; omega)))) (fail)
      all_goals go_wp2
      all_goals go_meet
      all_goals
        (obtain ⟨w', hw', k0, k1, k2, k3, kg⟩ := heap4 W _ _ _ _
         rw [← hw']
         exact made_mk HZ.out HX2.out HX3.out HBW.out kg (by assumption) (by assumption) (by assumption) (by assumption) (by omega) (by omega) (by omega))
    case rest =>
      obtain ⟨b5, b6, R, S, rfl, rfl, h2, h3, h5, h6, hR, hS, hbR, hbS, hRS, hbw⟩ := hcut
      have H2 := Lib.hid h2
      have H3 := Lib.hid h3
      have H5 := Lib.hid h5
      have H6 := Lib.hid h6
      have HR := Lib.hid hR
      have HS := Lib.hid hS
      have HBW := Lib.hid hbw
      have hbw1 := hbw.size
      have c5 : wc.cell? ⟨b5, 0, none⟩ = some (.slice (some ⟨R, 0, none⟩) n n) := h5.get 0
      have n5 := whole_box_apart h5 hR (by decide)
      have hne5 : ¬ R = b5 := fun e => n5 (by rw [e])
      have N2 := Lib.hid (whole_box_apart h2 hR (by decide))
      have N3 := Lib.hid (whole_box_apart h3 hR (by decide))
      have N5 := Lib.hid n5
      have N6 := Lib.hid (whole_box_apart h6 hR (by decide))
      clear h2 h3 h5 h6 hR hS hbw n5
      go_wp2
      go_loopw [7, 22] (fun _ i wr => ∃ x : Nat, x ≤ n ∧ i = .int .i64 x ∧ Whole wr R (tabI n fun j => if j < x then (j : Int) else 0) ∧ wc.grownBy wr (some R)) (fun _ i _ => n - (intOf i).toNat)
      case atStart => exact ⟨0, by omega, rfl, by rw [tabI_congr (g := fun _ => 0) fun i _ => if_neg (by omega)]; exact HR.out, grown_refl _ _⟩
      case round =>
        obtain ⟨x, hx, rfl, hw, hg⟩ := hrel
        have HW := Lib.hid hw
        have HGR := Lib.hid hg
        have d5 : wr.cell? ⟨b5, 0, none⟩ = some (.slice (some ⟨R, 0, none⟩) n n) := (H5.out.grown hg N5.out).get 0
        by_cases hlt : x < n
        · have hcx := hw.cell (i := x) (by rw [tabI_length]; exact hlt)
          have hfx := hw.free x
          clear hw hg
          go_wp2
          go_roundw
          case rel => exact ⟨x + 1, by omega, by go_num, by
            have h2 := HW.out.put x x
            rw [tabI_set] at h2
            rw [tabI_congr (g := fun j => if j = x then (x : Int) else if j < x then (j : Int) else 0) fun i hi => by
              by_cases e : i = x
              · subst e; rw [if_pos (by omega), if_pos rfl]
              · by_cases e2 : i < x
                · rw [if_pos (by omega), if_neg e, if_pos e2]
                · rw [if_neg (by omega), if_neg e, if_neg e2]]
            exact h2, grown_put HGR.out (.inl rfl) _⟩
          case measure => simp [intOf]; omega
        · obtain rfl : n = x := by omega
          have HROW : Hid (Whole wr R (placesI (List.range n))) := Lib.hid (by
            rw [placesI_range]
            have h1 := HW.out
            rw [tabI_congr (g := fun j => (j : Int)) fun i hi => if_pos hi] at h1
            exact h1)
          have K2 := Lib.hid (H2.out.grown hg N2.out)
          have K3 := Lib.hid (H3.out.grown hg N3.out)
          have K5 := Lib.hid (H5.out.grown hg N5.out)
          have K6 := Lib.hid (H6.out.grown hg N6.out)
          have KS := Lib.hid (HS.out.grown hg (by intro e; injection e with e; exact hRS e.symm))
          have KB := Lib.hid (HBW.out.trans (below_of_grown_row hg (B := w.heap.size) hbw1 (fun y hy => by injection hy with hy; omega)))
          clear hw hg c5
          go_wp2
          obtain ⟨b8, hb8⟩ : ∃ b8, b8 = wr.heap.size := ⟨_, rfl⟩
          obtain ⟨w8, hw8⟩ : ∃ w8, w8 = wr.alloc (.cells #[.func (.func 25) #[] #[.pointer (some ⟨w.heap.size + 1, 0, none⟩), .pointer (some ⟨w.heap.size, 0, none⟩)]] 29) := ⟨_, rfl⟩
          have hg8 : wr.grownBy w8 none := by rw [hw8]; exact World.grownBy_alloc wr _ _
          have hb8x : Box w8 b8 29 #[.func (.func 25) #[] #[.pointer (some ⟨w.heap.size + 1, 0, none⟩), .pointer (some ⟨w.heap.size, 0, none⟩)]] := by rw [hw8, hb8]; exact Box.fresh wr _ _
          have HB8 : Hid (Below w.heap.size w w8) := Lib.hid (KB.out.trans (below_of_grown_row hg8 KB.out.size (by simp)))
          have HST : Hid (St4 w8 w.heap.size w.heap.size (w.heap.size + 1) b5 b6 b8 R S A n c f l (List.range n)) := Lib.hid ⟨K2.out.grown hg8 (by simp), K3.out.grown hg8 (by simp), K5.out.grown hg8 (by simp), K6.out.grown hg8 (by simp), hb8x,
            (H.out.below HB8.out), HROW.out.grown hg8 (by simp), ⟨_, tabI_length n _, KS.out.grown hg8 (by simp)⟩, hbR, hbS, hRS, List.length_range, HB8.out.size⟩
          have HRUN := Lib.hid (runs_one (atK K l) n)
          rw [← hw8, ← hb8]
          clear hw8 hb8 hg8 hb8x K2 K3 K5 K6 KS KB HROW HW HGR H2 H3 H5 H6 HR HS HBW N2 N3 N5 N6 d5 hne5 hbw1
          go_loopw [10, 11] (fun v10 _ wr2 => ∃ (W : Nat) (row : List Nat), 0 < W ∧ W ≤ 2097152 ∧ v10 = .int .i64 (W : Int) ∧ St4 wr2 w.heap.size w.heap.size (w.heap.size + 1) b5 b6 b8 R S A n c f l row ∧ Runs (atK K l) n W row ∧ Below w.heap.size w wr2) (fun v10 _ _ => n - (intOf v10).toNat)
          case atStart => exact ⟨1, _, by omega, by omega, rfl, HST.out, HRUN.out, HB8.out⟩
          case round =>
            obtain ⟨W, row, hW0, hW1, rfl, hst, hrun, hbel⟩ := hrel
            obtain ⟨w9, hw9⟩ : ∃ w9, w9 = wr := ⟨_, rfl⟩
            subst hw9
            have HST2 := Lib.hid hst
            have HRUN2 := Lib.hid hrun
            have HBEL := Lib.hid hbel
            have e5 : w9.cell? ⟨b5, 0, none⟩ = some (.slice (some ⟨R, 0, none⟩) n n) := by obtain ⟨_, _, h, _⟩ := hst; exact h.get 0
            have hlen : row.length = n := by obtain ⟨_, _, _, _, _, _, _, _, _, _, _, h, _⟩ := hst; exact h
            have HLEN := Lib.hid hlen
            clear hst hrun hbel hlen
            by_cases hlt2 : W < n
            · go_wp2
              go_loopw [11] (fun v11 wr3 => ∃ (t : Nat) (row : List Nat), 2 * W ∣ t ∧ t ≤ n + 2 * W ∧ v11 = .int .i64 (t : Int) ∧ St4 wr3 w.heap.size w.heap.size (w.heap.size + 1) b5 b6 b8 R S A n c f l row ∧ Half (atK K l) n W t row ∧ Below w.heap.size w wr3) (fun v11 _ => n - (intOf v11).toNat)
              case atStart => exact ⟨0, row, Nat.dvd_zero _, by omega, rfl, HST2.out, HRUN2.out.half, HBEL.out⟩
              case round =>
                obtain ⟨t, row2, hdt, ht, rfl, hst, hhalf, hbel⟩ := hrel
                obtain ⟨w10, hw10⟩ : ∃ w10, w10 = wr := ⟨_, rfl⟩
                subst hw10
                have HST3 := Lib.hid hst
                have HALF := Lib.hid hhalf
                have HBEL3 := Lib.hid hbel
                have HDT := Lib.hid hdt
                have f5 : w10.cell? ⟨b5, 0, none⟩ = some (.slice (some ⟨R, 0, none⟩) n n) := by obtain ⟨_, _, h, _⟩ := hst; exact h.get 0
                clear hst hhalf hbel hdt
                by_cases hlt3 : t + W < n
                · obtain ⟨m, hm⟩ : ∃ m, m = t + W := ⟨_, rfl⟩
                  obtain ⟨q, hq⟩ : ∃ q, q = t + 2 * W := ⟨_, rfl⟩
                  have hWt : W ∣ t := Nat.dvd_trans ⟨2, by omega⟩ HDT.out
                  have hs1 := HALF.out.2 t hWt (Nat.le_refl _) (by omega)
                  have hs2 := HALF.out.2 m (by rw [hm]; exact Nat.dvd_add hWt ⟨1, by omega⟩) (by omega) (by omega)
                  rw [← hm, lo_left (by omega)] at hs1
                  rw [show m + W = q by omega] at hs2
                  have HMG := Lib.hid (merge4_any w.heap.size w.heap.size (w.heap.size + 1) b5 b6 b8 R S A n c f K l row2 t m (lo q n) w10 HST3.out HG.out.1 hn (by omega) (by unfold lo; split <;> omega) (lo_le _ _) hs1 hs2)
                  have e1 : (t : Int) + (W : Int) = (m : Int) := by omega
                  have e2 : (t : Int) + 2 * (W : Int) = (q : Int) := by omega
                  have hmn : m < n := by omega
                  have hqq : q ≤ 10000000 := by omega
                  have HQ := Lib.hid hq
                  clear hs1 hs2 hm hq hWt
                  by_cases hqn : q ≤ n
                  · rw [lo_left hqn] at HMG
                    have d1 : (q : Int) ≤ (n : Int) := by omega
                    go_wp2_with (go_at_call 26; refine HMG.out.mono ?_; rintro e w11 ⟨rfl, row3, hst, hseg, hoth, hbel⟩; have HST4 := Lib.hid hst; have HSEG := Lib.hid hseg; have HOTH := Lib.hid hoth; have HBEL4 := Lib.hid hbel; clear hst hseg hoth hbel)
                    go_roundw
                    case rel => exact ⟨q, row3, by rw [HQ.out]; exact Nat.dvd_add HDT.out ⟨1, by omega⟩, by omega, rfl, HST4.out, by
                      have h1 := HALF.out.next (row' := row3) hW0 HDT.out (by rw [← HQ.out, lo_left hqn]; exact HSEG.out) (by rw [← HQ.out, lo_left hqn]; exact HOTH.out)
                      rw [← HQ.out] at h1
                      exact h1, HBEL3.out.trans HBEL4.out⟩
                    case measure => simp [intOf]; omega
                  · rw [lo_right (by omega)] at HMG
                    have d1 : (n : Int) < (q : Int) := by omega
                    go_wp2_with (go_at_call 26; refine HMG.out.mono ?_; rintro e w11 ⟨rfl, row3, hst, hseg, hoth, hbel⟩; have HST4 := Lib.hid hst; have HSEG := Lib.hid hseg; have HOTH := Lib.hid hoth; have HBEL4 := Lib.hid hbel; clear hst hseg hoth hbel)
                    go_roundw
                    case rel => exact ⟨q, row3, by rw [HQ.out]; exact Nat.dvd_add HDT.out ⟨1, by omega⟩, by omega, rfl, HST4.out, by
                      have h1 := HALF.out.next (row' := row3) hW0 HDT.out (by rw [← HQ.out, lo_right (by omega)]; exact HSEG.out) (by rw [← HQ.out, lo_right (by omega)]; exact HOTH.out)
                      rw [← HQ.out] at h1
                      exact h1, HBEL3.out.trans HBEL4.out⟩
                    case measure => simp [intOf]; omega
                · go_wp2
                  go_roundw
                  case rel => exact ⟨2 * W, row2, by omega, by omega, by go_num, HST3.out, HALF.out.runs hW0 HDT.out (by omega), HBEL3.out⟩
                  case measure => simp [intOf]; omega
            · go_wp2
              go_ret
              have hio := HRUN2.out.all HLEN.out (by omega)
              have hwr : Whole w9 R (placesI row) := by obtain ⟨_, _, _, _, _, _, h, _⟩ := HST2.out; exact h
              have h1 := hwr.own hbR (by rw [placesI_length, HLEN.out]; exact hn)
              refine ⟨row, by rw [HL.out]; exact hio, ?_⟩
              unfold GaveInts
              rw [placesI_length, HLEN.out] at h1 ⊢
              exact ⟨_, _, rfl, h1, grown_of_below HBEL.out⟩
end Go.Proofs.Ytffobpbpdnamnaa
