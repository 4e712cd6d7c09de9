/-
  THE WALK OF BitsMixes: two rows place by place, and whether they are the same; and of none.
-/
import Derived.Test.YtfnnnbpceeeecaaDoorKnows2
import Derived.Maps.AppendAt
namespace Go.Proofs.YtfnnnbpceeeecaaDoor
open Go.ChangeShapes Go.WideShapes Go.ChangeAt Go.RowKit
set_option linter.unusedVariables false

theorem boolV_snoc (f : Nat → Bool) (n : Nat) : boolV f (n + 1) = boolV f n ++ [Value.bool (f n)] := by
  unfold boolV
  rw [List.range_succ, List.map_append]
  rfl
/-- two rows that grow side by side. -/
def Grows (w3 : World) (f g : Nat → Bool) (x : Nat) (v7 v8 : Value) (wr : World) : Prop :=
  wr.ownsRow w3.heap.size 4 1 v7 x (boolV f x) ∧ wr.ownsRow w3.heap.size 4 1 v8 x (boolV g x) ∧ (v7.ownBlock = none ∨ v7.ownBlock ≠ v8.ownBlock) ∧ w3.grownBy wr none
theorem keep_second {w3 wr w1 : World} {f g : Nat → Bool} {x : Nat} {v7 v8 : Value} (h : Grows w3 f g x v7 v8 wr) (o : Obj) (hg : (wr.alloc o).grownBy w1 v7.ownBlock) : w1.ownsRow w3.heap.size 4 1 v8 x (boolV g x) := by
  refine World.ownsRow.kept (h.2.1.alloc o) hg ?_
  rcases h.2.2.1 with e | e
  · rw [e]; cases v8.ownBlock <;> simp
  · exact .inr (Ne.symm e)
theorem grows_step {w3 wr w1 w2 : World} {f g : Nat → Bool} {x : Nat} {v7 v8 v7' v8' : Value} (o o' : Obj) (h : Grows w3 f g x v7 v8 wr)
    (h1 : w1.ownsRow w3.heap.size 4 1 v7' (x + 1) (boolV f x ++ [.bool (f x)])) (g1 : (wr.alloc o).grownBy w1 v7.ownBlock) (a1 : v7'.ownBlock = v7.ownBlock ∨ v7'.ownBlock = some (wr.alloc o).heap.size)
    (h2 : w2.ownsRow w3.heap.size 4 1 v8' (x + 1) (boolV g x ++ [.bool (g x)])) (g2 : (w1.alloc o').grownBy w2 v8.ownBlock) (a2 : v8'.ownBlock = v8.ownBlock ∨ v8'.ownBlock = some (w1.alloc o').heap.size) :
    Grows w3 f g (x + 1) v7' v8' w2 := by
  have l7 := h.1.lt
  have l8 := h.2.1.lt
  have l7' := h1.lt
  have s1 : wr.heap.size + 1 ≤ w1.heap.size := by have := g1.size; simpa using this
  have hap : v7'.ownBlock = none ∨ v7'.ownBlock ≠ v8'.ownBlock := by
    cases e7 : v7'.ownBlock with
    | none => exact .inl rfl
    | some k7 =>
      refine .inr fun e => ?_
      have k1 := (l7' k7 e7).2
      rcases a2 with a2 | a2
      · rw [a2] at e
        have k2 := (l8 k7 e.symm).2
        rcases a1 with a1 | a1
        · rcases h.2.2.1 with e1 | e1
          · rw [a1, e1] at e7; cases e7
          · exact e1 (by rw [← a1, e7, e])
        · rw [a1] at e7
          injection e7 with e7
          simp at e7
          omega
      · rw [a2] at e
        injection e with e
        simp at e
        omega
  refine ⟨?_, ?_, hap, ?_⟩
  · rw [boolV_snoc]
    refine World.ownsRow.kept (h1.alloc o') g2 ?_
    cases e7 : v7'.ownBlock with
    | none => exact .inl rfl
    | some k7 =>
      refine .inr fun e => ?_
      have k2 := (l8 k7 e.symm).2
      rcases a1 with a1 | a1
      · rcases h.2.2.1 with e1 | e1
        · rw [a1, e1] at e7; cases e7
        · exact e1 (by rw [← a1, e7, e])
      · rw [a1] at e7
        injection e7 with e7
        simp at e7
        omega
  · rw [boolV_snoc]; exact h2
  · have r7 : v7.ownBlock = none ∨ ∀ y, v7.ownBlock = some y → w3.heap.size ≤ y := .inr fun y hy => (l7 y hy).1
    have j1 : w3.grownBy w1 none := grown_join (grown_alloc h.2.2.2 o) g1 (.inr fun y hy => (l7 y hy).1)
    exact grown_join (grown_alloc j1 o') g2 (.inr fun y hy => (l8 y hy).1)
theorem first_grown {w3 wr w1 : World} {f g : Nat → Bool} {x : Nat} {v7 v8 : Value} (h : Grows w3 f g x v7 v8 wr) (o : Obj) (hg : (wr.alloc o).grownBy w1 v7.ownBlock) : w3.grownBy w1 none :=
  grown_join (grown_alloc h.2.2.2 o) hg (.inr fun y hy => (h.1.lt y hy).1)
theorem cell_on {w3 wr w4 : World} (h1 : w3.grownBy wr none) (h2 : w3.grownBy w4 none) {p : Addr} (hp : p.block < w3.heap.size) : w4.cell? p = wr.cell? p :=
  (World.cell?_of_block (h2.block p.block hp (by simp))).trans (World.cell?_of_block (h1.block p.block hp (by simp))).symm
theorem grows_zero (w3 : World) (f g : Nat → Bool) : Grows w3 f g 0 (.slice none 0 0) (.slice none 0 0) w3 := ⟨World.ownsRow_nil _ _ _ _, World.ownsRow_nil _ _ _ _, .inl rfl, grown_refl _ _⟩
theorem new_cell (w : World) (v : Value) (t : TypeId) : ∀ j u, [v][j]? = some u → (w.alloc (.cells #[v] t)).cell? ((⟨w.heap.size, 0, none⟩ : Addr).add j) = some u := by
  intro j u hu
  match j, hu with
  | 0, hu =>
    rw [Addr.add_lit, cell_of_row _ _ _ _ _ _ (heap_alloc_new w _)]
    exact hu

def Grew (w3 : World) (l l' : List Bool) (e : Value × Value) (wr : World) : Prop := Grows w3 (fun i => l.getD i false && l'.getD i false) (fun i => l.getD i false || l'.getD i false) (min l.length l'.length) e.1 e.2 wr

theorem own_slice {w : World} {base : Nat} {e : TypeId} {size n : Nat} {v : Value} {xs : List Value} (h : w.ownsRow base e size v n xs) : ∃ A c, v = .slice A n c := by
  rcases h.2 with ⟨rfl, rfl⟩ | ⟨k, cap, cur, rfl, _⟩
  · exact ⟨_, _, rfl⟩
  · exact ⟨_, _, rfl⟩
theorem ends_ok (l l' : List Bool) (x : Nat) (h : x = min l.length l'.length) : decide (mixL and l l' = tab x fun i => l.getD i false && l'.getD i false) = true ∧ decide (mixL or l l' = tab x fun i => l.getD i false || l'.getD i false) = true := by
  subst h
  exact ⟨decide_eq_true rfl, decide_eq_true rfl⟩
theorem nil_is (l : List Bool) (n : Nat) (h : l.length = n) : decide ([] = l) = ((n : Int) == 0) := by
  subst h
  cases l with
  | nil => rfl
  | cons x r => simp; omega
theorem mixes_many (A A' : Option Addr) (n n' c c' : Nat) (w : World) (hT : Tab w) (h : 500 < n ∨ 500 < n') (hn : n ≤ 9223372036854775807) (hn' : n' ≤ 9223372036854775807) :
    Calls Tryd.prog 6 #[.slice A n c, .slice A' n' c'] w fun e w' => e = .returned (.bool true) ∧ w.grownBy w' none := by
  have HK := Lib.hid (knows_any w hT)
  clear hT
  by_cases h1 : 500 < n
  · clear h
    go_enter Tryd.func6, Tryd.ntmps6
    go_wp2_with fail
    refine HK.out.mono ?_
    rintro e w1 ⟨rfl, hg⟩
    have HG := Lib.hid hg
    clear hg
    go_wp2_with fail
    go_ret
    exact ⟨rfl, HG.out⟩
  · have h2 : 500 < n' := by omega
    clear h
    go_enter Tryd.func6, Tryd.ntmps6
    go_wp2_with fail
    refine HK.out.mono ?_
    rintro e w1 ⟨rfl, hg⟩
    have HG := Lib.hid hg
    clear hg
    go_wp2_with fail
    go_ret
    exact ⟨rfl, HG.out⟩
set_option maxRecDepth 100000 in
set_option maxHeartbeats 8000000 in
theorem mixes_few (A A' : Option Addr) (n n' c c' : Nat) (l l' : List Bool) (w : World) (hT : Tab w) (h : Bools w w.heap.size A n l) (h' : Bools w w.heap.size A' n' l') (hn : n ≤ 500) (hn' : n' ≤ 500) :
    Calls Tryd.prog 6 #[.slice A n c, .slice A' n' c'] w fun e w' => e = .returned (.bool true) ∧ w.grownBy w' none := by
  have HK := Lib.hid (knows_any w hT)
  have HT := Lib.hid hT
  have H := Lib.hid h
  have H' := Lib.hid h'
  have HN := Lib.hid h.1
  have HN' := Lib.hid h'.1
  obtain ⟨i0, hi, hz0, hz1, hz2⟩ := info_parts info_bool
  clear hT h h'
  go_enter Tryd.func6, Tryd.ntmps6
  go_wp2_with fail
  refine HK.out.mono ?_
  rintro e w1 ⟨rfl, hg⟩
  have HG1 := Lib.hid hg
  clear hg
  go_wp2_with fail
  refine (of_any A n c l w1 ((H.out.keep (below_of_grown HG1.out)).more HG1.out.size) (by omega)).mono ?_
  rintro e w2 ⟨g, B, k, d, rfl, hm, hg⟩
  have HM2 := Lib.hid hm
  have HG2 := Lib.hid (grown_join HG1.out hg (.inr (by simp)))
  clear hm hg
  go_wp2_with fail
  refine (of_any A' n' c' l' w2 ((H'.out.keep (below_of_grown HG2.out)).more HG2.out.size) (by omega)).mono ?_
  rintro e w3 ⟨g', B', k', d', rfl, hm, hg⟩
  have HM3' := Lib.hid hm
  have HM3 := Lib.hid (HM2.out.grow hg)
  have HG3 := Lib.hid (grown_join HG2.out hg (.inr (by simp)))
  clear hm hg
  go_wp2_with fail
  go_loopw [7, 8, 9] (fun v7 v8 i wr => ∃ x : Nat, x ≤ n ∧ x ≤ n' ∧ i = .int .i64 x ∧ Grows w3 (fun i => l.getD i false && l'.getD i false) (fun i => l.getD i false || l'.getD i false) x v7 v8 wr) (fun _ _ i _ => n - (intOf i).toNat)
  case atStart => exact ⟨0, by omega, by omega, rfl, grows_zero _ _ _⟩
  case round =>
    obtain ⟨x, hx, hx', rfl, hgr⟩ := hrel
    have HGR := Lib.hid hgr
    have hgw := hgr.2.2.2
    have hgs := hgw.size
    clear hgr
    by_cases hlt : x < n
    · by_cases hlt' : x < n'
      · have hbel := below_of_grown (grown_join HG3.out hgw (.inr (by simp)))
        obtain ⟨b, off, rfl, hb, hc⟩ := (H.out.keep hbel).2.at_ hlt
        obtain ⟨b', off', rfl, hb', hc'⟩ := (H'.out.keep hbel).2.at_ hlt'
        have HGW := Lib.hid hgw
        have hws := HG3.out.size
        clear hgw hbel
        generalize h1 : l.getD x false = p at *
        generalize h2 : l'.getD x false = q at *
        have H1 := Lib.hid h1
        have H2 := Lib.hid h2
        clear h1 h2
        cases p
        · cases q
          · go_wp2_with (first
              | (at_builtin; refine wpList_append_own_at _ rfl (.tmp 40) (.tmp 51) _ rfl w3.heap.size 4 i0 _ 1 1 Tryd.underlying26 hi hz0 hz1 hz2 rfl (by omega) u7 x _ rfl (HGR.out.1.alloc _) ⟨_, 0, none⟩ 1 1 [.bool false] rfl rfl (new_cell _ _ _) (by simp [Value.oneCell']) (by simp only [maxLen]; omega) (by omega) (by simp; omega) ?_; intro v7' w4 hown4 hg4 _ hat4; have HO4 := Lib.hid hown4; have HG4 := Lib.hid hg4; have HA4 := Lib.hid hat4; have hs4 := hg4.size; have hc4 := (cell_on HGW.out (first_grown HGR.out _ hg4) (p := ⟨b, off + x, none⟩) (by show b < _; omega)).trans hc; have hc4' := (cell_on HGW.out (first_grown HGR.out _ hg4) (p := ⟨b', off' + x, none⟩) (by show b' < _; omega)).trans hc'; clear hown4 hg4 hat4)
              | (at_builtin; refine wpList_append_own_at _ rfl (.tmp 53) (.tmp 64) _ rfl w3.heap.size 4 i0 _ 1 1 Tryd.underlying26 hi hz0 hz1 hz2 rfl (by omega) u8 x _ rfl ((keep_second HGR.out _ HG4.out).alloc _) ⟨_, 0, none⟩ 1 1 [.bool false] rfl rfl (new_cell _ _ _) (by simp [Value.oneCell']) (by simp only [maxLen]; omega) (by omega) (by simp at hs4 ⊢; omega) ?_; intro v8' w5 hown5 hg5 _ hat5; have HO5 := Lib.hid hown5; have HG5 := Lib.hid hg5; have HA5 := Lib.hid hat5; clear hown5 hg5 hat5))
            go_roundw
            case rel => exact ⟨x + 1, by omega, by omega, by go_num, grows_step _ _ HGR.out (by have h := HO4.out; show w4.ownsRow _ _ _ _ _ (_ ++ [.bool (l.getD x false && l'.getD x false)]); rw [H1.out, H2.out]; exact h) HG4.out HA4.out (by have h := HO5.out; show w5.ownsRow _ _ _ _ _ (_ ++ [.bool (l.getD x false || l'.getD x false)]); rw [H1.out, H2.out]; exact h) HG5.out HA5.out⟩
            case measure => simp [intOf]; omega
          · go_wp2_with (first
              | (at_builtin; refine wpList_append_own_at _ rfl (.tmp 40) (.tmp 51) _ rfl w3.heap.size 4 i0 _ 1 1 Tryd.underlying26 hi hz0 hz1 hz2 rfl (by omega) u7 x _ rfl (HGR.out.1.alloc _) ⟨_, 0, none⟩ 1 1 [.bool false] rfl rfl (new_cell _ _ _) (by simp [Value.oneCell']) (by simp only [maxLen]; omega) (by omega) (by simp; omega) ?_; intro v7' w4 hown4 hg4 _ hat4; have HO4 := Lib.hid hown4; have HG4 := Lib.hid hg4; have HA4 := Lib.hid hat4; have hs4 := hg4.size; have hc4 := (cell_on HGW.out (first_grown HGR.out _ hg4) (p := ⟨b, off + x, none⟩) (by show b < _; omega)).trans hc; have hc4' := (cell_on HGW.out (first_grown HGR.out _ hg4) (p := ⟨b', off' + x, none⟩) (by show b' < _; omega)).trans hc'; clear hown4 hg4 hat4)
              | (at_builtin; refine wpList_append_own_at _ rfl (.tmp 53) (.tmp 64) _ rfl w3.heap.size 4 i0 _ 1 1 Tryd.underlying26 hi hz0 hz1 hz2 rfl (by omega) u8 x _ rfl ((keep_second HGR.out _ HG4.out).alloc _) ⟨_, 0, none⟩ 1 1 [.bool true] rfl rfl (new_cell _ _ _) (by simp [Value.oneCell']) (by simp only [maxLen]; omega) (by omega) (by simp at hs4 ⊢; omega) ?_; intro v8' w5 hown5 hg5 _ hat5; have HO5 := Lib.hid hown5; have HG5 := Lib.hid hg5; have HA5 := Lib.hid hat5; clear hown5 hg5 hat5))
            go_roundw
            case rel => exact ⟨x + 1, by omega, by omega, by go_num, grows_step _ _ HGR.out (by have h := HO4.out; show w4.ownsRow _ _ _ _ _ (_ ++ [.bool (l.getD x false && l'.getD x false)]); rw [H1.out, H2.out]; exact h) HG4.out HA4.out (by have h := HO5.out; show w5.ownsRow _ _ _ _ _ (_ ++ [.bool (l.getD x false || l'.getD x false)]); rw [H1.out, H2.out]; exact h) HG5.out HA5.out⟩
            case measure => simp [intOf]; omega
        · cases q
          · go_wp2_with (first
              | (at_builtin; refine wpList_append_own_at _ rfl (.tmp 40) (.tmp 51) _ rfl w3.heap.size 4 i0 _ 1 1 Tryd.underlying26 hi hz0 hz1 hz2 rfl (by omega) u7 x _ rfl (HGR.out.1.alloc _) ⟨_, 0, none⟩ 1 1 [.bool false] rfl rfl (new_cell _ _ _) (by simp [Value.oneCell']) (by simp only [maxLen]; omega) (by omega) (by simp; omega) ?_; intro v7' w4 hown4 hg4 _ hat4; have HO4 := Lib.hid hown4; have HG4 := Lib.hid hg4; have HA4 := Lib.hid hat4; have hs4 := hg4.size; have hc4 := (cell_on HGW.out (first_grown HGR.out _ hg4) (p := ⟨b, off + x, none⟩) (by show b < _; omega)).trans hc; have hc4' := (cell_on HGW.out (first_grown HGR.out _ hg4) (p := ⟨b', off' + x, none⟩) (by show b' < _; omega)).trans hc'; clear hown4 hg4 hat4)
              | (at_builtin; refine wpList_append_own_at _ rfl (.tmp 53) (.tmp 64) _ rfl w3.heap.size 4 i0 _ 1 1 Tryd.underlying26 hi hz0 hz1 hz2 rfl (by omega) u8 x _ rfl ((keep_second HGR.out _ HG4.out).alloc _) ⟨_, 0, none⟩ 1 1 [.bool true] rfl rfl (new_cell _ _ _) (by simp [Value.oneCell']) (by simp only [maxLen]; omega) (by omega) (by simp at hs4 ⊢; omega) ?_; intro v8' w5 hown5 hg5 _ hat5; have HO5 := Lib.hid hown5; have HG5 := Lib.hid hg5; have HA5 := Lib.hid hat5; clear hown5 hg5 hat5))
            go_roundw
            case rel => exact ⟨x + 1, by omega, by omega, by go_num, grows_step _ _ HGR.out (by have h := HO4.out; show w4.ownsRow _ _ _ _ _ (_ ++ [.bool (l.getD x false && l'.getD x false)]); rw [H1.out, H2.out]; exact h) HG4.out HA4.out (by have h := HO5.out; show w5.ownsRow _ _ _ _ _ (_ ++ [.bool (l.getD x false || l'.getD x false)]); rw [H1.out, H2.out]; exact h) HG5.out HA5.out⟩
            case measure => simp [intOf]; omega
          · go_wp2_with (first
              | (at_builtin; refine wpList_append_own_at _ rfl (.tmp 40) (.tmp 51) _ rfl w3.heap.size 4 i0 _ 1 1 Tryd.underlying26 hi hz0 hz1 hz2 rfl (by omega) u7 x _ rfl (HGR.out.1.alloc _) ⟨_, 0, none⟩ 1 1 [.bool true] rfl rfl (new_cell _ _ _) (by simp [Value.oneCell']) (by simp only [maxLen]; omega) (by omega) (by simp; omega) ?_; intro v7' w4 hown4 hg4 _ hat4; have HO4 := Lib.hid hown4; have HG4 := Lib.hid hg4; have HA4 := Lib.hid hat4; have hs4 := hg4.size; have hc4 := (cell_on HGW.out (first_grown HGR.out _ hg4) (p := ⟨b, off + x, none⟩) (by show b < _; omega)).trans hc; have hc4' := (cell_on HGW.out (first_grown HGR.out _ hg4) (p := ⟨b', off' + x, none⟩) (by show b' < _; omega)).trans hc'; clear hown4 hg4 hat4)
              | (at_builtin; refine wpList_append_own_at _ rfl (.tmp 53) (.tmp 64) _ rfl w3.heap.size 4 i0 _ 1 1 Tryd.underlying26 hi hz0 hz1 hz2 rfl (by omega) u8 x _ rfl ((keep_second HGR.out _ HG4.out).alloc _) ⟨_, 0, none⟩ 1 1 [.bool true] rfl rfl (new_cell _ _ _) (by simp [Value.oneCell']) (by simp only [maxLen]; omega) (by omega) (by simp at hs4 ⊢; omega) ?_; intro v8' w5 hown5 hg5 _ hat5; have HO5 := Lib.hid hown5; have HG5 := Lib.hid hg5; have HA5 := Lib.hid hat5; clear hown5 hg5 hat5))
            go_roundw
            case rel => exact ⟨x + 1, by omega, by omega, by go_num, grows_step _ _ HGR.out (by have h := HO4.out; show w4.ownsRow _ _ _ _ _ (_ ++ [.bool (l.getD x false && l'.getD x false)]); rw [H1.out, H2.out]; exact h) HG4.out HA4.out (by have h := HO5.out; show w5.ownsRow _ _ _ _ _ (_ ++ [.bool (l.getD x false || l'.getD x false)]); rw [H1.out, H2.out]; exact h) HG5.out HA5.out⟩
            case measure => simp [intOf]; omega
      · obtain ⟨hx1, hx2⟩ : x = n' ∧ n' ≤ n := by omega
        have HX := Lib.hid (show x = min n n' by omega)
        have HE := Lib.hid (ends_ok l l' x (by rw [HN.out, HN'.out]; exact HX.out))
        clear hx1 hx2 hgs
        obtain ⟨A7, c7, rfl⟩ := own_slice HGR.out.1
        obtain ⟨A8, c8, rfl⟩ := own_slice HGR.out.2.1
        have HGW := Lib.hid hgw
        clear hgw
        have HG4 := Lib.hid (grown_join HG3.out HGW.out (.inr (by simp)))
        have HMX := Lib.hid ((HM3.out.grow HGW.out).lower (Nat.zero_le _))
        have HMY := Lib.hid ((HM3'.out.grow HGW.out).lower (Nat.zero_le _))
        go_wp2_with fail
        refine (len_any none [] 0 _ (MaskP.nil _ _)).mono ?_
        rintro e w4 ⟨rfl, hww⟩
        subst hww
        go_wp2_with fail
        refine (count_any none [] 0 _ (MaskP.nil _ _)).mono ?_
        rintro e w5 ⟨rfl, hww⟩
        subst hww
        rw [show cnt [] = 0 from rfl]
        go_wp2_with fail
        refine (next_any none [] 3 true ⟨by omega, by omega⟩ 0 _ (MaskP.nil _ _) (HT.out.grown HG4.out (by simp))).mono ?_
        rintro e w6 ⟨r, hr, rfl, m, hww⟩
        subst hww
        obtain rfl : 0 = r := by have := hr.1; simp at this; omega
        clear hr
        go_wp2_with fail
        refine (bytes_any none [] 0 _ (MaskP.nil _ _) (Nat.zero_le _)).mono ?_
        rw [show nb [] = 0 from rfl]
        rintro e w7 ⟨A9, c9, rfl, _, hg⟩
        have HG5 := Lib.hid (grown_join (grown_drewN HG4.out m) hg (.inr (by simp)))
        have HMX5 := Lib.hid ((HMX.out.drewN m).grow hg)
        have HMY5 := Lib.hid ((HMY.out.drewN m).grow hg)
        have HR7 := Lib.hid (show OwnB w7 w3.heap.size A7 x c7 _ from World.ownsRow.kept (show (World.drewN _ m).ownsRow _ _ _ _ _ _ from HGR.out.1) hg (by cases (Value.slice A7 x c7).ownBlock <;> simp))
        have HR8 := Lib.hid (show OwnB w7 w3.heap.size A8 x c8 _ from World.ownsRow.kept (show (World.drewN _ m).ownsRow _ _ _ _ _ _ from HGR.out.2.1) hg (by cases (Value.slice A8 x c8).ownBlock <;> simp))
        clear hg
        go_wp2_with fail
        refine (clone_any none [] 0 _ (MaskP.nil _ _)).mono ?_
        rintro e w8 ⟨g8, B8, k8, d8, rfl, hm, hg⟩
        have HM8 := Lib.hid hm
        have HG6 := Lib.hid (grown_join HG5.out hg (.inr (by simp)))
        have HMX6 := Lib.hid (HMX5.out.grow hg)
        have HMY6 := Lib.hid (HMY5.out.grow hg)
        have HR76 := Lib.hid (HR7.out.grow hg (.inl rfl))
        have HR86 := Lib.hid (HR8.out.grow hg (.inl rfl))
        clear hm hg
        go_wp2_with fail
        refine (len_any _ [] _ _ HM8.out.p).mono ?_
        rintro e w9 ⟨rfl, hww⟩
        subst hww
        go_wp2_with fail
        refine (set_no none [] 0 true 0 _ (MaskP.nil _ _) rfl).mono ?_
        rintro e w10 ⟨rfl, hww⟩
        subst hww
        go_wp2_with fail
        refine (get_any none [] 0 0 _ (MaskP.nil _ _)).mono ?_
        rintro e w11 ⟨rfl, hww⟩
        subst hww
        rw [show tr [] 0 = false from rfl]
        go_wp2_with fail
        refine (both_any none _ [] l _ (MaskP.nil _ _) HMX6.out.p).mono ?_
        rintro e w12 ⟨g12, B12, k12, d12, rfl, hm, hg⟩
        have HM12 := Lib.hid hm
        have HG7 := Lib.hid (grown_join HG6.out hg (.inr (by simp)))
        have HMX7 := Lib.hid (HMX6.out.grow hg)
        have HMY7 := Lib.hid (HMY6.out.grow hg)
        have HR77 := Lib.hid (HR76.out.grow hg (.inl rfl))
        have HR87 := Lib.hid (HR86.out.grow hg (.inl rfl))
        clear hm hg
        go_wp2_with fail
        refine (len_any _ _ _ _ HM12.out.p).mono ?_
        rintro e w13 ⟨rfl, hww⟩
        subst hww
        rw [show (mixL and [] l).length = 0 by rw [mixL_length]; simp]
        go_wp2_with fail
        refine (both_any _ _ l l' _ HMX7.out.p HMY7.out.p).mono ?_
        rintro e w14 ⟨g14, B14, k14, d14, rfl, hm, hg⟩
        have HM14 := Lib.hid hm
        have HG8 := Lib.hid (grown_join HG7.out hg (.inr (by simp)))
        have HMX8 := Lib.hid (HMX7.out.grow hg)
        have HMY8 := Lib.hid (HMY7.out.grow hg)
        have HR78 := Lib.hid (HR77.out.grow hg (.inl rfl))
        have HR88 := Lib.hid (HR87.out.grow hg (.inl rfl))
        clear hm hg
        go_wp2_with fail
        refine (lawSame_any _ A7 x c7 _ _ _ _ _ HM14.out.p HR78.out.bools (by omega)).mono ?_
        rintro e w15 ⟨rfl, m15, hww⟩
        subst hww
        rw [HE.out.1]
        go_wp2_with fail
        refine (either_any _ _ l l' _ (HMX8.out.drewN m15).p (HMY8.out.drewN m15).p).mono ?_
        rintro e w16 ⟨g16, B16, k16, d16, rfl, hm, hg⟩
        have HM16 := Lib.hid hm
        have HG9 := Lib.hid (grown_join (grown_drewN HG8.out m15) hg (.inr (by simp)))
        have HMX9 := Lib.hid ((HMX8.out.drewN m15).grow hg)
        have HMY9 := Lib.hid ((HMY8.out.drewN m15).grow hg)
        have HR89 := Lib.hid (OwnB.grow (w := World.drewN _ m15) HR88.out hg (.inl rfl))
        clear hm hg
        go_wp2_with fail
        refine (lawSame_any _ A8 x c8 _ _ _ _ _ HM16.out.p HR89.out.bools (by omega)).mono ?_
        rintro e w17 ⟨rfl, m17, hww⟩
        subst hww
        rw [HE.out.2]
        go_wp2_with fail
        refine (bsame_any _ _ l l' _ _ _ (HMX9.out.drewN m17).p (HMY9.out.drewN m17).p).mono ?_
        rintro e w18 ⟨rfl, m18, hww⟩
        subst hww
        generalize hq : decide (l = l') = q at *
        have HQ := Lib.hid hq
        clear hq
        go_wp2_with fail
        have hbel := below_of_grown (grown_drewN HG9.out (m17 + m18))
        refine (refSame_any A A' n n' c c' l l' _ _ (H.out.keep hbel) (H'.out.keep hbel) (by omega) (by omega)).mono ?_
        rintro e w19 ⟨rfl, m19, hww⟩
        subst hww
        rw [HQ.out]
        clear hbel
        go_wp2_with fail
        refine (bsame_any none _ [] l 0 _ _ (MaskP.nil _ _) (HMX9.out.drewN (m17 + m18 + m19)).p).mono ?_
        rintro e w20 ⟨rfl, m20, hww⟩
        subst hww
        rw [nil_is l n HN.out]
        go_wp2_with fail
        go_ret
        exact ⟨rfl, grown_drewN HG9.out _⟩
    · obtain ⟨hx1, hx2⟩ : x = n ∧ n ≤ n' := by omega
      have HX := Lib.hid (show x = min n n' by omega)
      have HE := Lib.hid (ends_ok l l' x (by rw [HN.out, HN'.out]; exact HX.out))
      clear hx1 hx2 hgs
      obtain ⟨A7, c7, rfl⟩ := own_slice HGR.out.1
      obtain ⟨A8, c8, rfl⟩ := own_slice HGR.out.2.1
      have HGW := Lib.hid hgw
      clear hgw
      have HG4 := Lib.hid (grown_join HG3.out HGW.out (.inr (by simp)))
      have HMX := Lib.hid ((HM3.out.grow HGW.out).lower (Nat.zero_le _))
      have HMY := Lib.hid ((HM3'.out.grow HGW.out).lower (Nat.zero_le _))
      go_wp2_with fail
      refine (len_any none [] 0 _ (MaskP.nil _ _)).mono ?_
      rintro e w4 ⟨rfl, hww⟩
      subst hww
      go_wp2_with fail
      refine (count_any none [] 0 _ (MaskP.nil _ _)).mono ?_
      rintro e w5 ⟨rfl, hww⟩
      subst hww
      rw [show cnt [] = 0 from rfl]
      go_wp2_with fail
      refine (next_any none [] 3 true ⟨by omega, by omega⟩ 0 _ (MaskP.nil _ _) (HT.out.grown HG4.out (by simp))).mono ?_
      rintro e w6 ⟨r, hr, rfl, m, hww⟩
      subst hww
      obtain rfl : 0 = r := by have := hr.1; simp at this; omega
      clear hr
      go_wp2_with fail
      refine (bytes_any none [] 0 _ (MaskP.nil _ _) (Nat.zero_le _)).mono ?_
      rw [show nb [] = 0 from rfl]
      rintro e w7 ⟨A9, c9, rfl, _, hg⟩
      have HG5 := Lib.hid (grown_join (grown_drewN HG4.out m) hg (.inr (by simp)))
      have HMX5 := Lib.hid ((HMX.out.drewN m).grow hg)
      have HMY5 := Lib.hid ((HMY.out.drewN m).grow hg)
      have HR7 := Lib.hid (show OwnB w7 w3.heap.size A7 x c7 _ from World.ownsRow.kept (show (World.drewN _ m).ownsRow _ _ _ _ _ _ from HGR.out.1) hg (by cases (Value.slice A7 x c7).ownBlock <;> simp))
      have HR8 := Lib.hid (show OwnB w7 w3.heap.size A8 x c8 _ from World.ownsRow.kept (show (World.drewN _ m).ownsRow _ _ _ _ _ _ from HGR.out.2.1) hg (by cases (Value.slice A8 x c8).ownBlock <;> simp))
      clear hg
      go_wp2_with fail
      refine (clone_any none [] 0 _ (MaskP.nil _ _)).mono ?_
      rintro e w8 ⟨g8, B8, k8, d8, rfl, hm, hg⟩
      have HM8 := Lib.hid hm
      have HG6 := Lib.hid (grown_join HG5.out hg (.inr (by simp)))
      have HMX6 := Lib.hid (HMX5.out.grow hg)
      have HMY6 := Lib.hid (HMY5.out.grow hg)
      have HR76 := Lib.hid (HR7.out.grow hg (.inl rfl))
      have HR86 := Lib.hid (HR8.out.grow hg (.inl rfl))
      clear hm hg
      go_wp2_with fail
      refine (len_any _ [] _ _ HM8.out.p).mono ?_
      rintro e w9 ⟨rfl, hww⟩
      subst hww
      go_wp2_with fail
      refine (set_no none [] 0 true 0 _ (MaskP.nil _ _) rfl).mono ?_
      rintro e w10 ⟨rfl, hww⟩
      subst hww
      go_wp2_with fail
      refine (get_any none [] 0 0 _ (MaskP.nil _ _)).mono ?_
      rintro e w11 ⟨rfl, hww⟩
      subst hww
      rw [show tr [] 0 = false from rfl]
      go_wp2_with fail
      refine (both_any none _ [] l _ (MaskP.nil _ _) HMX6.out.p).mono ?_
      rintro e w12 ⟨g12, B12, k12, d12, rfl, hm, hg⟩
      have HM12 := Lib.hid hm
      have HG7 := Lib.hid (grown_join HG6.out hg (.inr (by simp)))
      have HMX7 := Lib.hid (HMX6.out.grow hg)
      have HMY7 := Lib.hid (HMY6.out.grow hg)
      have HR77 := Lib.hid (HR76.out.grow hg (.inl rfl))
      have HR87 := Lib.hid (HR86.out.grow hg (.inl rfl))
      clear hm hg
      go_wp2_with fail
      refine (len_any _ _ _ _ HM12.out.p).mono ?_
      rintro e w13 ⟨rfl, hww⟩
      subst hww
      rw [show (mixL and [] l).length = 0 by rw [mixL_length]; simp]
      go_wp2_with fail
      refine (both_any _ _ l l' _ HMX7.out.p HMY7.out.p).mono ?_
      rintro e w14 ⟨g14, B14, k14, d14, rfl, hm, hg⟩
      have HM14 := Lib.hid hm
      have HG8 := Lib.hid (grown_join HG7.out hg (.inr (by simp)))
      have HMX8 := Lib.hid (HMX7.out.grow hg)
      have HMY8 := Lib.hid (HMY7.out.grow hg)
      have HR78 := Lib.hid (HR77.out.grow hg (.inl rfl))
      have HR88 := Lib.hid (HR87.out.grow hg (.inl rfl))
      clear hm hg
      go_wp2_with fail
      refine (lawSame_any _ A7 x c7 _ _ _ _ _ HM14.out.p HR78.out.bools (by omega)).mono ?_
      rintro e w15 ⟨rfl, m15, hww⟩
      subst hww
      rw [HE.out.1]
      go_wp2_with fail
      refine (either_any _ _ l l' _ (HMX8.out.drewN m15).p (HMY8.out.drewN m15).p).mono ?_
      rintro e w16 ⟨g16, B16, k16, d16, rfl, hm, hg⟩
      have HM16 := Lib.hid hm
      have HG9 := Lib.hid (grown_join (grown_drewN HG8.out m15) hg (.inr (by simp)))
      have HMX9 := Lib.hid ((HMX8.out.drewN m15).grow hg)
      have HMY9 := Lib.hid ((HMY8.out.drewN m15).grow hg)
      have HR89 := Lib.hid (OwnB.grow (w := World.drewN _ m15) HR88.out hg (.inl rfl))
      clear hm hg
      go_wp2_with fail
      refine (lawSame_any _ A8 x c8 _ _ _ _ _ HM16.out.p HR89.out.bools (by omega)).mono ?_
      rintro e w17 ⟨rfl, m17, hww⟩
      subst hww
      rw [HE.out.2]
      go_wp2_with fail
      refine (bsame_any _ _ l l' _ _ _ (HMX9.out.drewN m17).p (HMY9.out.drewN m17).p).mono ?_
      rintro e w18 ⟨rfl, m18, hww⟩
      subst hww
      generalize hq : decide (l = l') = q at *
      have HQ := Lib.hid hq
      clear hq
      go_wp2_with fail
      have hbel := below_of_grown (grown_drewN HG9.out (m17 + m18))
      refine (refSame_any A A' n n' c c' l l' _ _ (H.out.keep hbel) (H'.out.keep hbel) (by omega) (by omega)).mono ?_
      rintro e w19 ⟨rfl, m19, hww⟩
      subst hww
      rw [HQ.out]
      clear hbel
      go_wp2_with fail
      refine (bsame_any none _ [] l 0 _ _ (MaskP.nil _ _) (HMX9.out.drewN (m17 + m18 + m19)).p).mono ?_
      rintro e w20 ⟨rfl, m20, hww⟩
      subst hww
      rw [nil_is l n HN.out]
      go_wp2_with fail
      go_ret
      exact ⟨rfl, grown_drewN HG9.out _⟩
theorem bitsMixes_walk (A A' : Option Addr) (n n' c c' : Nat) (l l' : List Bool) (w : World) (hT : Tab w) (h : Bools w w.heap.size A n l) (h' : Bools w w.heap.size A' n' l') (hn : n ≤ 9223372036854775807) (hn' : n' ≤ 9223372036854775807) :
    Calls Tryd.prog 6 #[.slice A n c, .slice A' n' c'] w fun e w' => e = .returned (.bool true) ∧ Below w.heap.size w w' := by
  by_cases h0 : 500 < n ∨ 500 < n'
  · exact (mixes_many A A' n n' c c' w hT h0 hn hn').mono fun e w' ⟨h1, h2⟩ => ⟨h1, below_of_grown h2⟩
  · exact (mixes_few A A' n n' c c' l l' w hT h h' (by omega) (by omega)).mono fun e w' ⟨h1, h2⟩ => ⟨h1, below_of_grown h2⟩
end Go.Proofs.YtfnnnbpceeeecaaDoor
