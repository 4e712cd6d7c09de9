/-
  Texts of this claim, one behind the other.
-/
import Derived.Deep.DeepCutAuto
import Derived.Deep.RegionHeld3
import Derived.Test.YtdjenakmdjiknaaPack1
import Derived.Test.YtdjenakmdjiknaaPack2
import Derived.Test.YtdjenakmdjiknaaPack3
import Derived.Test.YtdjenakmdjiknaaPack4
import Derived.Test.YtdjenakmdjiknaaPack5

/-! Layer 9: the walk of OdoPairs, out of what is asked of the program's own odometer. -/
section
namespace Go.Proofs.Ytdjenakmdjiknaa
open Go.ChangeShapes Go.WideShapes Go.ChangeAt Go.RowKit Go.Shelf
set_option linter.unusedVariables false
set_option maxRecDepth 100000
attribute [local go_sem] Oper.semAt_some

theorem cells_three9 {w : World} {b : Nat} {t : TypeId} {x y z : Value} (h : Box w b t #[x, y, z]) : w.cell? ⟨b, 0, none⟩ = some x ∧ w.cell? ⟨b, 1, none⟩ = some y ∧ w.cell? ⟨b, 2, none⟩ = some z :=
  ⟨by rw [h.get]; rfl, by rw [h.get]; rfl, by rw [h.get]; rfl⟩
theorem cells_one9 {w : World} {b : Nat} {t : TypeId} {x : Value} (h : Box w b t #[x]) : w.cell? ⟨b, 0, none⟩ = some x ∧ w.frozen? ⟨b, 0, none⟩ = false :=
  ⟨by rw [h.get]; rfl, h.free 0⟩
theorem boxes_three9 (w : World) (t1 t2 t3 : TypeId) (a b c : Array Value) : Box (((w.alloc (.cells a t1)).alloc (.cells b t2)).alloc (.cells c t3)) w.heap.size t1 a ∧ Box (((w.alloc (.cells a t1)).alloc (.cells b t2)).alloc (.cells c t3)) (w.heap.size + 1) t2 b ∧ Box (((w.alloc (.cells a t1)).alloc (.cells b t2)).alloc (.cells c t3)) (w.heap.size + 1 + 1) t3 c ∧ w.grownBy (((w.alloc (.cells a t1)).alloc (.cells b t2)).alloc (.cells c t3)) none := by
  refine ⟨((Box.fresh w t1 a).alloc _).alloc _, ?_, ?_, grown_alloc (grown_alloc (World.grownBy_alloc w _ none) _) _⟩
  · have h := (Box.fresh (w.alloc (.cells a t1)) t2 b).alloc (.cells c t3)
    simpa using h
  · have h := Box.fresh ((w.alloc (.cells a t1)).alloc (.cells b t2)) t3 c
    simpa using h
theorem light_len9 {s t : List Int} {o most : Int} (h : lightB ⟨s, t, o⟩ most = true) : s.length ≤ 20 ∧ t.length ≤ 20 := by
  unfold lightB at h
  simp only [Bool.and_eq_true, decide_eq_true_eq] at h
  exact h.1
theorem cells_six9 {w : World} {b b' : Nat} {t t' : TypeId} {x y z x' y' z' : Value} (h : Box w b t #[x, y, z]) (h' : Box w b' t' #[x', y', z']) : w.cell? ⟨b, 0, none⟩ = some x ∧ w.cell? ⟨b, 1, none⟩ = some y ∧ w.cell? ⟨b, 2, none⟩ = some z ∧ w.cell? ⟨b', 0, none⟩ = some x' ∧ w.cell? ⟨b', 1, none⟩ = some y' ∧ w.cell? ⟨b', 2, none⟩ = some z' :=
  ⟨by rw [h.get]; rfl, by rw [h.get]; rfl, by rw [h.get]; rfl, by rw [h'.get]; rfl, by rw [h'.get]; rfl, by rw [h'.get]; rfl⟩
theorem box_dr9 {w : World} {g : Nat} {t : TypeId} {cs : Array Value} (h : Box w g t cs) : Box w.drew g t cs := h
theorem box_second9 (w : World) (t1 t2 : TypeId) (a b : Array Value) : Box ((w.alloc (.cells a t1)).alloc (.cells b t2)) (w.heap.size + 1) t2 b := by
  have h := Box.fresh (w.alloc (.cells a t1)) t2 b
  simpa using h
/-- two lists are kept in boxes of their own. -/
def Two9 (w : World) (l l' : List Int) (v v' : Value) (w' : World) : Prop := ∃ b b' L L' ca cb, v = .pointer (some ⟨b, 0, none⟩) ∧ v' = .pointer (some ⟨b', 0, none⟩) ∧ Box w' b 22 #[.slice L l.length ca] ∧ Box w' b' 22 #[.slice L' l'.length cb] ∧ OwnI w' w.heap.size L l.length ca l ∧ OwnI w' w.heap.size L' l'.length cb l' ∧ b ≠ b' ∧ w.heap.size ≤ b ∧ w.heap.size ≤ b' ∧ w.grownBy w' none
theorem col_len9' {v : Vw} (hr : rightV v = true) : ((colL v).length : Int) = cellsV v := by
  rw [col_yes hr]
  unfold offsL
  rw [List.length_map, List.length_range, cells_right hr]
  have := prod_nonneg (s := v.sh) fun z hz => ((right_all (full_all (rightV_all hr).1).1).1 z hz).1
  omega
theorem zip_len9 {v u : Vw} {ra rb eq : Bool} (ha : rightV v = ra) (hb : rightV u = rb) (he : decide (v.sh = u.sh) = eq) : (ra && rb && eq) = true → (colL v).length = (colL u).length := by
  intro h
  simp only [Bool.and_eq_true] at h
  obtain ⟨⟨rfl, rfl⟩, rfl⟩ := h
  have h1 := of_decide_eq_true he
  have h2 := col_len9' ha
  have h3 := col_len9' hb
  have h4 : cellsV v = cellsV u := by unfold cellsV; rw [h1]
  omega
theorem fst_get9 {zs : List (Int × Int)} {j : Nat} (h : j < zs.length) : (zs.map Prod.fst).getD j 0 = (zs.getD j (0, 0)).1 := by simp [List.getD, h]
theorem snd_get9 {zs : List (Int × Int)} {j : Nat} (h : j < zs.length) : (zs.map Prod.snd).getD j 0 = (zs.getD j (0, 0)).2 := by simp [List.getD, h]
theorem take_last9 {zs pre : List (Int × Int)} {x : Int × Int} {k : Nat} (h : zs.take k = pre ++ [x]) : x = zs.getD pre.length (0, 0) := by
  have hl := congrArg List.length h
  rw [List.length_take, List.length_append, List.length_singleton] at hl
  have h1 : (zs.take k)[pre.length]? = some x := by rw [h]; simp
  rw [List.getElem?_take_of_lt (by omega)] at h1
  simp [List.getD, h1]
theorem pairs_small9 (v u : Vw) : (pairsL v u).length ≤ 1048576 := by
  unfold pairsL
  split
  · have := col_small v
    rw [List.length_zip]
    omega
  · simp
theorem take_next9 {zs pre : List (Int × Int)} (hp : pre = zs.take pre.length) (hlt : pre.length < zs.length) {x : Int × Int} (hx : x = zs.getD pre.length (0, 0)) : pre ++ [x] = zs.take (pre ++ [x]).length ∧ (pre ++ [x]).length ≤ zs.length := by
  rw [List.length_append, List.length_singleton]
  refine ⟨?_, hlt⟩
  rw [List.take_succ_eq_append_getElem hlt, ← hp, hx]
  simp [List.getD, hlt]
theorem cells_put9 {w : World} {b : Nat} {t : TypeId} {x : Value} (h : Box w b t #[x]) (u : Value) : (w.setCell ⟨b, 0, none⟩ u).cell? ⟨b, 0, none⟩ = some u ∧ (w.setCell ⟨b, 0, none⟩ u).frozen? ⟨b, 0, none⟩ = false ∧ True :=
  ⟨by rw [(h.put 0 u).get]; rfl, (h.put 0 u).free 0, trivial⟩
theorem cells_last9 {w : World} {b b1 b2 b3 : Nat} {t t1 t2 t3 : TypeId} {x y z x1 x2 x3 : Value} (h : Box w b t #[x, y, z]) (h1 : Box w b1 t1 #[x1]) (h2 : Box w b2 t2 #[x2]) (h3 : Box w b3 t3 #[x3]) : w.cell? ⟨b, 0, none⟩ = some x ∧ w.cell? ⟨b, 1, none⟩ = some y ∧ w.cell? ⟨b, 2, none⟩ = some z ∧ w.cell? ⟨b1, 0, none⟩ = some x1 ∧ w.cell? ⟨b2, 0, none⟩ = some x2 ∧ w.cell? ⟨b3, 0, none⟩ = some x3 :=
  ⟨by rw [h.get]; rfl, by rw [h.get]; rfl, by rw [h.get]; rfl, by rw [h1.get]; rfl, by rw [h2.get]; rfl, by rw [h3.get]; rfl⟩
theorem leave_one9 {fn : Func} {tmps : Array Value} {R : Ending → World → Prop} {D : Nat} {ds : List Deferred} {W : World} (hK : W.heap[D]? = some (.deferred (some []))) (h : LeavesInM Fence.wide 9 Try.prog fn tmps R ds .returning (W.putObj D (.deferred none))) :
    LeavesInM Fence.wide 9 Try.prog fn tmps R ({ target := .collected D, args := #[] } :: ds) .returning W := ⟨by simp, .inl ⟨_, _, rfl, run_takeDeferred hK, h⟩⟩
theorem put_obj9 {W : World} {D D' : Nat} {o o' : Obj} (h : W.heap[D]? = some o) (hne : D ≠ D') : (W.putObj D' o').heap[D]? = some o :=
  ((grownBy_putObj' W D' o').block D (Array.getElem?_eq_some_iff.1 h).1 (fun e => hne (by injection e))).trans h
/-- a function is left behind three ranges: its answer lies in the box at b. -/
theorem leave_three9 {fn : Func} {tmps : Array Value} {D D2 D3 b : Nat} {w W3 wm : World} (h1 : W3.heap[D]? = some (.deferred (some []))) (h2 : W3.heap[D2]? = some (.deferred (some []))) (h3 : W3.heap[D3]? = some (.deferred (some []))) (n23 : D2 ≠ D3) (n12 : D ≠ D2) (n13 : D ≠ D3)
    (hg : W3.grownBy wm none) (hb : Box wm b 4 #[.bool false]) (hw : w.grownBy wm none) (hb0 : w.heap.size ≤ b) (hD : w.heap.size ≤ D ∧ w.heap.size ≤ D2 ∧ w.heap.size ≤ D3)
    (hr : ∀ W9 : World, W9.cell? ⟨b, 0, none⟩ = some (.bool true) → (results fn tmps).run Try.prog W9 = .ok (.bool true) W9) :
    LeavesInM Fence.wide 9 Try.prog fn tmps (TellG (.bool true) w) ({ target := .collected D3, args := #[] } :: { target := .collected D2, args := #[] } :: { target := .collected D, args := #[] } :: []) .returning (wm.setCell ⟨b, 0, none⟩ (.bool true)) := by
  have k : ∀ E, W3.heap[E]? = some (.deferred (some [])) → E ≠ b ∧ (wm.setCell ⟨b, 0, none⟩ (.bool true)).heap[E]? = some (.deferred (some [])) := fun E hE => by
    have h4 : wm.heap[E]? = some (.deferred (some [])) := (hg.block E (Array.getElem?_eq_some_iff.1 hE).1 (by simp)).trans hE
    have hne : E ≠ b := fun e => by
      subst e
      unfold Box at hb
      rw [hb] at h4
      cases h4
    exact ⟨hne, by simp [World.setCell, Array.getElem?_modify, Ne.symm hne]; exact h4⟩
  have hbb := hb.put 0 (.bool true)
  refine leave_one9 (k D3 h3).2 (leave_one9 (put_obj9 (k D2 h2).2 n23) (leave_one9 (put_obj9 (put_obj9 (k D h1).2 n13) n12) ?_))
  have hc : Box ((((wm.setCell ⟨b, 0, none⟩ (.bool true)).putObj D3 (.deferred none)).putObj D2 (.deferred none)).putObj D (.deferred none)) b 4 #[.bool true] := put_obj9 (put_obj9 (put_obj9 hbb (Ne.symm (k D3 h3).1)) (Ne.symm (k D2 h2).1)) (Ne.symm (k D h1).1)
  refine ⟨.bool true, hr _ (cells_one9 hc).1, rfl, ?_⟩
  exact grown_join (grown_join (grown_join (grown_put hw (.inr hb0) _) (grownBy_putObj' _ D3 _) (.inr fun z e => by injection e with e; omega)) (grownBy_putObj' _ D2 _) (.inr fun z e => by injection e with e; omega)) (grownBy_putObj' _ D _) (.inr fun z e => by injection e with e; omega)
theorem own_box9 {w : World} {B n c g : Nat} {A : Option Addr} {zs : List Int} {cs : Array Value} (h : OwnI w B A n c zs) (hb : Box w g 22 cs) : A.map (·.block) ≠ some g := by
  have := own_apart h.2 hb (by decide)
  rw [map_own] at this
  exact this
theorem two9_put {w4 wd : World} {l l' : List Int} {LA LB : Option Addr} {ca cb b b' : Nat} {x y : Value} (hA : OwnI wd w4.heap.size LA l.length ca l) (hB : OwnI wd w4.heap.size LB l'.length cb l') (q : Box wd b 22 #[x]) (q' : Box wd b' 22 #[y]) (ne : b ≠ b') (hb : w4.heap.size ≤ b) (hb' : w4.heap.size ≤ b') (hg : w4.grownBy wd none) :
    Two9 w4 l l' (.pointer (some ⟨b, 0, none⟩)) (.pointer (some ⟨b', 0, none⟩)) ((wd.setCell ⟨b, 0, none⟩ (.slice LA l.length ca)).setCell ⟨b', 0, none⟩ (.slice LB l'.length cb)) := by
  have k1 := q.put 0 (.slice LA l.length ca)
  have k2 := q'.grown (row := some b) (grown_put (j := 0) (grown_refl wd (some b)) (.inl rfl) (.slice LA l.length ca)) (fun e => ne (by injection e with e; exact e.symm))
  refine ⟨b, b', LA, LB, ca, cb, rfl, rfl, ?_, k2.put 0 _, own_put_other (own_put_other hA (own_box9 hA q) _) (own_box9 hA q') _, own_put_other (own_put_other hB (own_box9 hB q) _) (own_box9 hB q') _, ne, hb, hb', grown_put (grown_put hg (.inr hb) _) (.inr hb') _⟩
  exact k1.grown (row := some b') (grown_put (j := 0) (grown_refl _ (some b')) (.inl rfl) (.slice LB l'.length cb)) (fun e => ne (by injection e))
theorem two9_new {w4 wd : World} {l l' : List Int} {LA LB : Option Addr} {ca cb b' : Nat} {y : Value} (hA : OwnI wd w4.heap.size LA l.length ca l) (hB : OwnI wd w4.heap.size LB l'.length cb l') (q' : Box wd b' 22 #[y]) (hb' : w4.heap.size ≤ b') (hg : w4.grownBy wd none) :
    Two9 w4 l l' (.pointer (some ⟨wd.heap.size, 0, none⟩)) (.pointer (some ⟨b', 0, none⟩)) ((wd.alloc (.cells #[.slice LA l.length ca] 22)).setCell ⟨b', 0, none⟩ (.slice LB l'.length cb)) := by
  have hg2 := World.grownBy_alloc wd (.cells #[.slice LA l.length ca] 22) none
  have ne : wd.heap.size ≠ b' := by have := q'.small; omega
  refine ⟨wd.heap.size, b', LA, LB, ca, cb, rfl, rfl, ?_, (q'.grown hg2 (by simp)).put 0 _, own_put_other (hA.grow hg2) (own_box9 hA q') _, own_put_other (hB.grow hg2) (own_box9 hB q') _, ne, hg.size, hb', grown_put (grown_alloc hg _) (.inr hb') _⟩
  exact (Box.fresh wd 22 #[.slice LA l.length ca]).grown (row := some b') (grown_put (j := 0) (grown_refl _ (some b')) (.inl rfl) (.slice LB l'.length cb)) (fun e => ne (by injection e))
theorem two9_both {w4 wd : World} {l l' : List Int} {LA LB : Option Addr} {ca cb : Nat} (hA : OwnI wd w4.heap.size LA l.length ca l) (hB : OwnI wd w4.heap.size LB l'.length cb l') (hg : w4.grownBy wd none) :
    Two9 w4 l l' (.pointer (some ⟨wd.heap.size, 0, none⟩)) (.pointer (some ⟨wd.heap.size + 1, 0, none⟩)) ((wd.alloc (.cells #[.slice LA l.length ca] 22)).alloc (.cells #[.slice LB l'.length cb] 22)) := by
  have hg2 := grown_alloc (World.grownBy_alloc wd (.cells #[.slice LA l.length ca] 22) none) (.cells #[.slice LB l'.length cb] 22)
  exact ⟨wd.heap.size, wd.heap.size + 1, LA, LB, ca, cb, rfl, rfl, (Box.fresh wd _ _).alloc _, box_second9 wd _ _ _ _, hA.grow hg2, hB.grow hg2, by omega, hg.size, by have := hg.size; omega, grown_join hg hg2 (.inr (by simp))⟩
theorem two9_both' {w4 wd : World} {l l' : List Int} {LA LB : Option Addr} {ca cb : Nat} (hA : OwnI wd w4.heap.size LA l.length ca l) (hB : OwnI wd w4.heap.size LB l'.length cb l') (hg : w4.grownBy wd none) :
    Two9 w4 l l' (.pointer (some ⟨wd.heap.size + 1, 0, none⟩)) (.pointer (some ⟨wd.heap.size, 0, none⟩)) ((wd.alloc (.cells #[.slice LB l'.length cb] 22)).alloc (.cells #[.slice LA l.length ca] 22)) := by
  have hg2 := grown_alloc (World.grownBy_alloc wd (.cells #[.slice LB l'.length cb] 22) none) (.cells #[.slice LA l.length ca] 22)
  exact ⟨wd.heap.size + 1, wd.heap.size, LA, LB, ca, cb, rfl, rfl, box_second9 wd _ _ _ _, (Box.fresh wd _ _).alloc _, hA.grow hg2, hB.grow hg2, by omega, by have := hg.size; omega, hg.size, grown_join hg hg2 (.inr (by simp))⟩
set_option maxHeartbeats 8000000 in
theorem odoPairs_any {T : World → Nat → Addr → Vw → Nat → Bool → Prop} (V : ViewSays9) (S : OdoSays T) (RS : RangeSays) (A A' B B' : Option Addr) (n c n' c' m d m' d' : Nat) (s t su tu : List Int) (o ou : Int) (w : World) (h : NumsF w A n c s) (h' : NumsF w A' n' c' t) (ho : I64 o) (k : NumsF w B m d su) (k' : NumsF w B' m' d' tu) (hou : I64 ou) :
    Calls Try.prog 5 #[.agg #[.slice A n c, .slice A' n' c', .int .i64 o], .agg #[.slice B m d, .slice B' m' d', .int .i64 ou]] w (TellG (.bool true) w) := by
  have HK := Lib.hid (fun w' => knows9_any V S w')
  have HLI := Lib.hid (fun w' (hg : w.grownBy w' none) => light9_any A A' n c n' c' s t o w' (h.grow hg) (h'.grow hg))
  have HLI2 := Lib.hid (fun w' (hg : w.grownBy w' none) => light9_any B B' m d m' d' su tu ou w' (k.grow hg) (k'.grow hg))
  have HRS := Lib.hid RS
  obtain ⟨w1, hw1⟩ : ∃ w1, w1 = ((w.alloc (.cells #[.slice A n c, .slice A' n' c', .int .i64 o] 24)).alloc (.cells #[.slice B m d, .slice B' m' d', .int .i64 ou] 24)).alloc (.cells #[.bool false] 4) := ⟨_, rfl⟩
  have hb := boxes_three9 w 24 24 4 #[.slice A n c, .slice A' n' c', .int .i64 o] #[.slice B m d, .slice B' m' d', .int .i64 ou] #[.bool false]
  rw [← hw1] at hb
  obtain ⟨hb1, hb2, hb3, hg1⟩ := hb
  have HB1 := Lib.hid hb1
  have HB2 := Lib.hid hb2
  have HBR := Lib.hid hb3
  have HG1 := Lib.hid hg1
  have HW1 := Lib.hid hw1
  have HC1 := Lib.hid (fun w' (hg : w1.grownBy w' none) => cells_three9 (hb1.grown hg (by simp)))
  have HC2 := Lib.hid (fun w' (hg : w1.grownBy w' none) => cells_three9 (hb2.grown hg (by simp)))
  have HCR := Lib.hid (fun w' (hg : w1.grownBy w' none) => cells_one9 (hb3.grown hg (by simp)))
  clear hw1 hb1 hb2 hb3 hg1
  cases hlb : lightB ⟨s, t, o⟩ 400 with
  | false =>
    have HLB := Lib.hid hlb
    clear hlb
    refine (callsIn_wide (n := 9)).1 ?_
    refine callsIn_of_wp_marks Try.func5 rfl trivial ?_ rfl
    refine wpIn_wide.2 ?_
    simp only [Try.ntmps5, List.size_toArray, List.length_cons, List.length_nil, Nat.reduceAdd, Nat.reduceSub, Array.replicate_succ, Array.replicate_zero, List.push_toArray, List.append_toArray, List.nil_append, List.cons_append]
    go_upto_region 1 with fail
    rw [← HW1.out]
    obtain ⟨x0, x1, x2⟩ := HC1.out _ (grown_refl w1 none)
    go_wp2_with fail
    refine (HLI.out _ HG1.out).mono ?_
    rintro e w2 ⟨rfl, hg⟩
    rw [HLB.out]
    have HG2 := Lib.hid hg
    clear hg x0 x1 x2
    go_wp2_with fail
    refine (HK.out _).mono ?_
    rintro e w4 ⟨rfl, hg⟩
    have HG4 := Lib.hid (grown_join HG2.out hg (.inr (by simp)))
    clear hg
    obtain ⟨r0, r1⟩ := HCR.out _ HG4.out
    have e0 := (cells_one9 ((HBR.out.grown HG4.out (by simp)).put 0 (.bool true))).1
    go_wp2_with fail
    exact ⟨.bool true, by simp [results, Try.results5, go_sem, e0], rfl, grown_put (grown_join HG1.out HG4.out (.inr (by simp))) (.inr (by omega)) _⟩
  | true =>
    have HLB := Lib.hid hlb
    cases hlb2 : lightB ⟨su, tu, ou⟩ 400 with
    | false =>
      have HLB2 := Lib.hid hlb2
      clear hlb hlb2
      refine (callsIn_wide (n := 9)).1 ?_
      refine callsIn_of_wp_marks Try.func5 rfl trivial ?_ rfl
      refine wpIn_wide.2 ?_
      simp only [Try.ntmps5, List.size_toArray, List.length_cons, List.length_nil, Nat.reduceAdd, Nat.reduceSub, Array.replicate_succ, Array.replicate_zero, List.push_toArray, List.append_toArray, List.nil_append, List.cons_append]
      go_upto_region 1 with fail
      rw [← HW1.out]
      obtain ⟨x0, x1, x2⟩ := HC1.out _ (grown_refl w1 none)
      go_wp2_with fail
      refine (HLI.out _ HG1.out).mono ?_
      rintro e w2 ⟨rfl, hg⟩
      rw [HLB.out]
      have HG2 := Lib.hid hg
      clear hg x0 x1 x2
      obtain ⟨y0, y1, y2⟩ := HC2.out _ HG2.out
      go_wp2_with fail
      refine (HLI2.out _ (grown_join HG1.out HG2.out (.inr (by simp)))).mono ?_
      rintro e w3 ⟨rfl, hg⟩
      rw [HLB2.out]
      have HG3 := Lib.hid (grown_join HG2.out hg (.inr (by simp)))
      clear hg y0 y1 y2
      go_wp2_with fail
      refine (HK.out _).mono ?_
      rintro e w4 ⟨rfl, hg⟩
      have HG4 := Lib.hid (grown_join HG3.out hg (.inr (by simp)))
      clear hg
      obtain ⟨r0, r1⟩ := HCR.out _ HG4.out
      have e0 := (cells_one9 ((HBR.out.grown HG4.out (by simp)).put 0 (.bool true))).1
      go_wp2_with fail
      exact ⟨.bool true, by simp [results, Try.results5, go_sem, e0], rfl, grown_put (grown_join HG1.out HG4.out (.inr (by simp))) (.inr (by omega)) _⟩
    | true =>
      have HLB2 := Lib.hid hlb2
      have hn : n ≤ 1048576 ∧ n' ≤ 1048576 := by have h1 := light_len9 hlb; have h2 := h.len; have h3 := h'.len; omega
      have hm : m ≤ 1048576 ∧ m' ≤ 1048576 := by have h1 := light_len9 hlb2; have h2 := k.len; have h3 := k'.len; omega
      have HF : Hid (∀ w', w.grownBy w' none → ViewF w' A n c A' n' c' ⟨s, t, o⟩) := Lib.hid fun w' hg => ⟨h.grow hg, h'.grow hg, hn.1, hn.2⟩
      have HFU : Hid (∀ w', w.grownBy w' none → ViewF w' B m d B' m' d' ⟨su, tu, ou⟩) := Lib.hid fun w' hg => ⟨k.grow hg, k'.grow hg, hm.1, hm.2⟩
      clear hlb hlb2
      refine (callsIn_wide (n := 9)).1 ?_
      refine callsIn_of_wp_marks Try.func5 rfl trivial ?_ rfl
      refine wpIn_wide.2 ?_
      simp only [Try.ntmps5, List.size_toArray, List.length_cons, List.length_nil, Nat.reduceAdd, Nat.reduceSub, Array.replicate_succ, Array.replicate_zero, List.push_toArray, List.append_toArray, List.nil_append, List.cons_append]
      go_upto_region 1 with fail
      rw [← HW1.out]
      obtain ⟨x0, x1, x2⟩ := HC1.out _ (grown_refl w1 none)
      go_wp2_with fail
      refine (HLI.out _ HG1.out).mono ?_
      rintro e w2 ⟨rfl, hg⟩
      rw [HLB.out]
      have HG2 := Lib.hid hg
      clear hg x0 x1 x2
      obtain ⟨y0, y1, y2⟩ := HC2.out _ HG2.out
      go_wp2_with fail
      refine (HLI2.out _ (grown_join HG1.out HG2.out (.inr (by simp)))).mono ?_
      rintro e w3 ⟨rfl, hg⟩
      rw [HLB2.out]
      have HG3 := Lib.hid (grown_join HG2.out hg (.inr (by simp)))
      clear hg y0 y1 y2
      go_wp2_with fail
      refine (HK.out _).mono ?_
      rintro e w4 ⟨rfl, hg⟩
      have HG4 := Lib.hid (grown_join HG3.out hg (.inr (by simp)))
      clear hg
      go_upto_region 3 with fail
      have HC := Lib.hid (fun w' (hg : w4.grownBy w' none) => cells_six9 (HB1.out.grown (grown_join HG4.out hg (.inr (by simp))) (by simp)) (HB2.out.grown (grown_join HG4.out hg (.inr (by simp))) (by simp)))
      have HCA := Lib.hid (fun w' (hg : w4.grownBy w' none) => ref9Collect_any A A' n c n' c' s t o w' (HF.out w' (grown_join (grown_join HG1.out HG4.out (.inr (by simp))) hg (.inr (by simp)))).1 (HF.out w' (grown_join (grown_join HG1.out HG4.out (.inr (by simp))) hg (.inr (by simp)))).2.1 hn.1 hn.2)
      have HCB := Lib.hid (fun w' (hg : w4.grownBy w' none) => ref9Collect_any B B' m d m' d' su tu ou w' (HFU.out w' (grown_join (grown_join HG1.out HG4.out (.inr (by simp))) hg (.inr (by simp)))).1 (HFU.out w' (grown_join (grown_join HG1.out HG4.out (.inr (by simp))) hg (.inr (by simp)))).2.1 hm.1 hm.2)
      obtain ⟨x0, x1, x2, y0, y1, y2⟩ := HC.out _ (grown_refl w4 none)
      go_cut [5, 6] from 24 to 27 (fun v5 v6 wx => Two9 w4 (colL ⟨s, t, o⟩) (colL ⟨su, tu, ou⟩) v5 v6 wx)
      case first =>
        try clear HK
        try clear HLI
        try clear HLI2
        try clear HRS
        try clear HW1
        try clear HC1
        try clear HC2
        try clear HCR
        try clear HLB
        try clear HLB2
        try clear HF
        try clear HFU
        try clear HB1
        try clear HB2
        try clear HBR
        try clear HG1
        try clear HG2
        try clear HG3
        try clear HG4
        try clear ho
        try clear hou
        try clear h
        try clear h'
        try clear k
        try clear k'
        go_region_held3 (fun w' => w'.cell? ⟨w.heap.size, 0, none⟩ = some (.slice A n c) ∧ w'.cell? ⟨w.heap.size, 1, none⟩ = some (.slice A' n' c') ∧ w'.cell? ⟨w.heap.size, 2, none⟩ = some (.int .i64 o) ∧ w'.cell? ⟨w.heap.size + 1, 0, none⟩ = some (.slice B m d) ∧ w'.cell? ⟨w.heap.size + 1, 1, none⟩ = some (.slice B' m' d') ∧ w'.cell? ⟨w.heap.size + 1, 2, none⟩ = some (.int .i64 ou)) (first | exact HC.out _ (by repeat (first | exact grown_refl _ _ | exact HGd.out | exact HGc.out | refine grown_drew ?_ | refine grown_drewN ?_ _ | refine grown_alloc ?_ _ | refine grown_put ?_ (.inr (by first | exact Nat.le_refl _ | exact HGc.out.size | exact HGd.out.size | (have h1 := HGc.out.size; omega) | (have h1 := HGd.out.size; omega) | omega)) _)) | go_keep) (first
          | (go_at_call 13; (with_reducible refine (HCA.out _ (by repeat (first | exact grown_refl _ _ | refine grown_drewN ?_ _ | refine grown_drew ?_ | refine grown_alloc ?_ _))).mono ?_); rintro e wc ⟨LA, ca, rfl, hoa, hga⟩; have HOA := Lib.hid hoa; have HRA := Lib.hid hga; have HGc : Hid (w4.grownBy wc none) := Lib.hid (grown_join (by repeat (first | exact grown_refl _ _ | refine grown_drewN ?_ _ | refine grown_drew ?_ | refine grown_alloc ?_ _)) hga (.inr (by simp))); clear hoa hga; (first | (have hbx : Box wc (w4.heap.size) 22 #[.slice none 0 0] := Box.grown (by first | exact Box.fresh w4 _ _ | exact (Box.fresh w4 _ _).alloc _ | exact box_dr9 (Box.fresh w4 _ _) | exact box_dr9 ((Box.fresh w4 _ _).alloc _)) HRA.out (by simp); have P0 := Lib.hid hbx; obtain ⟨qP0, gP0⟩ := cells_one9 hbx; clear hbx) | skip); (first | (have hbx : Box wc (w4.heap.size + 1) 22 #[.slice none 0 0] := Box.grown (by first | exact box_second9 w4 _ _ _ _ | exact box_dr9 (box_second9 w4 _ _ _ _)) HRA.out (by simp); have P1 := Lib.hid hbx; obtain ⟨qP1, gP1⟩ := cells_one9 hbx; clear hbx) | skip))
          | (go_at_call 13; (with_reducible refine (HCB.out _ (by repeat (first | exact HGc.out | refine grown_drewN ?_ _ | refine grown_drew ?_ | refine grown_alloc ?_ _))).mono ?_); rintro e wd ⟨LB, cb, rfl, hob, hgb⟩; have HOB := Lib.hid hob; have HRB := Lib.hid hgb; have HGd : Hid (w4.grownBy wd none) := Lib.hid (grown_join (by repeat (first | exact HGc.out | refine grown_drewN ?_ _ | refine grown_drew ?_ | refine grown_alloc ?_ _)) hgb (.inr (by simp))); clear hob hgb; have HA9 : Hid (OwnI wd w4.heap.size LA _ ca _) := Lib.hid ((OwnI.grow HOA.out (show World.grownBy wc wd none by first | exact HRB.out | exact grown_join (World.grownBy_alloc wc _ none) HRB.out (.inr (by simp)) | exact grown_join (grown_alloc (World.grownBy_alloc wc _ none) _) HRB.out (.inr (by simp)))).lower (by first | (simp; done) | (simp; omega))); have HB9 : Hid (OwnI wd w4.heap.size LB _ cb _) := Lib.hid (HOB.out.lower (by have h1 := HGc.out.size; simp; omega)); (first | (have hbx : Box wd (w4.heap.size) 22 #[.slice none 0 0] := Box.grown P0.out (show World.grownBy wc wd none by first | exact HRB.out | exact grown_join (World.grownBy_alloc wc _ none) HRB.out (.inr (by simp)) | exact grown_join (grown_alloc (World.grownBy_alloc wc _ none) _) HRB.out (.inr (by simp))) (by simp); have Q0 := Lib.hid hbx; obtain ⟨qQ0, gQ0⟩ := cells_one9 hbx; clear hbx) | skip); (first | (have hbx : Box wd (w4.heap.size + 1) 22 #[.slice none 0 0] := Box.grown P1.out (show World.grownBy wc wd none by first | exact HRB.out | exact grown_join (World.grownBy_alloc wc _ none) HRB.out (.inr (by simp))) (by simp); have Q1 := Lib.hid hbx; obtain ⟨qQ1, gQ1⟩ := cells_one9 hbx; clear hbx) | skip); (first | (have hbx : Box wd (wc.heap.size) 22 #[.slice none 0 0] := Box.grown (by first | exact Box.fresh wc _ _ | exact (Box.fresh wc _ _).alloc _ | exact box_dr9 (Box.fresh wc _ _) | exact box_dr9 ((Box.fresh wc _ _).alloc _)) HRB.out (by simp); have Q2 := Lib.hid hbx; obtain ⟨qQ2, gQ2⟩ := cells_one9 hbx; clear hbx) | skip); (first | (have hbx : Box wd (wc.heap.size + 1) 22 #[.slice none 0 0] := Box.grown (by first | exact box_second9 wc _ _ _ _ | exact box_dr9 (box_second9 wc _ _ _ _)) HRB.out (by simp); have Q3 := Lib.hid hbx; obtain ⟨qQ3, gQ3⟩ := cells_one9 hbx; clear hbx) | skip); (first | (have hz := cells_one9 (Q0.out.alloc (.cells #[.slice none 0 0] 22)); have hv := cells_one9 (Q0.out.alloc (.cells #[.slice LA (colL ⟨s, t, o⟩).length ca] 22)); obtain ⟨zQ0, yQ0⟩ := hz; obtain ⟨vQ0, uQ0⟩ := hv) | skip); (first | (have hz := cells_one9 (Q1.out.alloc (.cells #[.slice none 0 0] 22)); have hv := cells_one9 (Q1.out.alloc (.cells #[.slice LA (colL ⟨s, t, o⟩).length ca] 22)); obtain ⟨zQ1, yQ1⟩ := hz; obtain ⟨vQ1, uQ1⟩ := hv) | skip); (first | (have hz := cells_one9 (Q2.out.alloc (.cells #[.slice none 0 0] 22)); have hv := cells_one9 (Q2.out.alloc (.cells #[.slice LA (colL ⟨s, t, o⟩).length ca] 22)); obtain ⟨zQ2, yQ2⟩ := hz; obtain ⟨vQ2, uQ2⟩ := hv) | skip); (first | (have hz := cells_one9 (Q3.out.alloc (.cells #[.slice none 0 0] 22)); have hv := cells_one9 (Q3.out.alloc (.cells #[.slice LA (colL ⟨s, t, o⟩).length ca] 22)); obtain ⟨zQ3, yQ3⟩ := hz; obtain ⟨vQ3, uQ3⟩ := hv) | skip); obtain ⟨e1, e2⟩ := cells_one9 ((Box.fresh wd 22 #[.slice none 0 0]).alloc (.cells #[.slice none 0 0] 22)); obtain ⟨e3, e4⟩ := cells_one9 ((Box.fresh wd 22 #[.slice none 0 0]).alloc (.cells #[.slice LA (colL ⟨s, t, o⟩).length ca] 22)); obtain ⟨e5, e6⟩ := cells_one9 (box_second9 wd 22 22 #[.slice none 0 0] #[.slice none 0 0]); have s1 := HRA.out.size; have s2 := HRB.out.size; have s3 := HGc.out.size; have s4 := HGd.out.size; simp at s1 s2; (first | (have n0 : ¬ (w4.heap.size = wc.heap.size) := by omega; have m0 : ¬ (wc.heap.size = w4.heap.size) := by omega) | skip); (first | (have n1 : ¬ (w4.heap.size = wd.heap.size) := by omega; have m1 : ¬ (wd.heap.size = w4.heap.size) := by omega) | skip); (first | (have n2 : ¬ (w4.heap.size + 1 = wd.heap.size) := by omega; have m2 : ¬ (wd.heap.size = w4.heap.size + 1) := by omega) | skip); (first | (have n3 : ¬ (w4.heap.size + 1 = wc.heap.size) := by omega; have m3 : ¬ (wc.heap.size = w4.heap.size + 1) := by omega) | skip); (first | (have n4 : ¬ (wc.heap.size = wd.heap.size) := by omega; have m4 : ¬ (wd.heap.size = wc.heap.size) := by omega) | skip); (first | (have n5 : ¬ (wc.heap.size + 1 = wd.heap.size) := by omega; have m5 : ¬ (wd.heap.size = wc.heap.size + 1) := by omega) | skip)))
        all_goals
          go_wp2_with fail
          go_meet
          first
          | exact two9_both HA9.out HB9.out HGd.out
          | exact two9_both' HA9.out HB9.out HGd.out
          | exact two9_new HA9.out HB9.out Q0.out (by have h1 := HGc.out.size; have h2 := HGd.out.size; omega) HGd.out
          | exact two9_new HA9.out HB9.out Q1.out (by have h1 := HGc.out.size; have h2 := HGd.out.size; omega) HGd.out
          | exact two9_new HA9.out HB9.out Q2.out (by have h1 := HGc.out.size; have h2 := HGd.out.size; omega) HGd.out
          | exact two9_new HA9.out HB9.out Q3.out (by have h1 := HGc.out.size; have h2 := HGd.out.size; omega) HGd.out
          | exact two9_put (HA9.out.grow (World.grownBy_alloc _ _ _)) (HB9.out.grow (World.grownBy_alloc _ _ _)) (Q0.out.alloc _) (Box.fresh _ _ _) (by have h1 := HGc.out.size; have h2 := HGd.out.size; have h3 := HRA.out.size; have h4 := HRB.out.size; simp at h3 h4; omega) (by have h1 := HGc.out.size; have h2 := HGd.out.size; omega) (by have h1 := HGc.out.size; have h2 := HGd.out.size; omega) (grown_alloc HGd.out _)
          | exact two9_put (HA9.out.grow (World.grownBy_alloc _ _ _)) (HB9.out.grow (World.grownBy_alloc _ _ _)) (Q1.out.alloc _) (Box.fresh _ _ _) (by have h1 := HGc.out.size; have h2 := HGd.out.size; have h3 := HRA.out.size; have h4 := HRB.out.size; simp at h3 h4; omega) (by have h1 := HGc.out.size; have h2 := HGd.out.size; omega) (by have h1 := HGc.out.size; have h2 := HGd.out.size; omega) (grown_alloc HGd.out _)
          | exact two9_put (HA9.out.grow (World.grownBy_alloc _ _ _)) (HB9.out.grow (World.grownBy_alloc _ _ _)) (Q2.out.alloc _) (Box.fresh _ _ _) (by have h1 := HGc.out.size; have h2 := HGd.out.size; have h3 := HRA.out.size; have h4 := HRB.out.size; simp at h3 h4; omega) (by have h1 := HGc.out.size; have h2 := HGd.out.size; omega) (by have h1 := HGc.out.size; have h2 := HGd.out.size; omega) (grown_alloc HGd.out _)
          | exact two9_put (HA9.out.grow (World.grownBy_alloc _ _ _)) (HB9.out.grow (World.grownBy_alloc _ _ _)) (Q3.out.alloc _) (Box.fresh _ _ _) (by have h1 := HGc.out.size; have h2 := HGd.out.size; have h3 := HRA.out.size; have h4 := HRB.out.size; simp at h3 h4; omega) (by have h1 := HGc.out.size; have h2 := HGd.out.size; omega) (by have h1 := HGc.out.size; have h2 := HGd.out.size; omega) (grown_alloc HGd.out _)
          | exact two9_put HA9.out HB9.out Q0.out Q1.out (by have h1 := HGc.out.size; have h2 := HGd.out.size; have h3 := HRA.out.size; have h4 := HRB.out.size; simp at h3 h4; omega) (by have h1 := HGc.out.size; have h2 := HGd.out.size; omega) (by have h1 := HGc.out.size; have h2 := HGd.out.size; omega) HGd.out
          | exact two9_put HA9.out HB9.out Q0.out Q2.out (by have h1 := HGc.out.size; have h2 := HGd.out.size; have h3 := HRA.out.size; have h4 := HRB.out.size; simp at h3 h4; omega) (by have h1 := HGc.out.size; have h2 := HGd.out.size; omega) (by have h1 := HGc.out.size; have h2 := HGd.out.size; omega) HGd.out
          | exact two9_put HA9.out HB9.out Q0.out Q3.out (by have h1 := HGc.out.size; have h2 := HGd.out.size; have h3 := HRA.out.size; have h4 := HRB.out.size; simp at h3 h4; omega) (by have h1 := HGc.out.size; have h2 := HGd.out.size; omega) (by have h1 := HGc.out.size; have h2 := HGd.out.size; omega) HGd.out
          | exact two9_put HA9.out HB9.out Q1.out Q0.out (by have h1 := HGc.out.size; have h2 := HGd.out.size; have h3 := HRA.out.size; have h4 := HRB.out.size; simp at h3 h4; omega) (by have h1 := HGc.out.size; have h2 := HGd.out.size; omega) (by have h1 := HGc.out.size; have h2 := HGd.out.size; omega) HGd.out
          | exact two9_put HA9.out HB9.out Q1.out Q2.out (by have h1 := HGc.out.size; have h2 := HGd.out.size; have h3 := HRA.out.size; have h4 := HRB.out.size; simp at h3 h4; omega) (by have h1 := HGc.out.size; have h2 := HGd.out.size; omega) (by have h1 := HGc.out.size; have h2 := HGd.out.size; omega) HGd.out
          | exact two9_put HA9.out HB9.out Q1.out Q3.out (by have h1 := HGc.out.size; have h2 := HGd.out.size; have h3 := HRA.out.size; have h4 := HRB.out.size; simp at h3 h4; omega) (by have h1 := HGc.out.size; have h2 := HGd.out.size; omega) (by have h1 := HGc.out.size; have h2 := HGd.out.size; omega) HGd.out
          | exact two9_put HA9.out HB9.out Q2.out Q0.out (by have h1 := HGc.out.size; have h2 := HGd.out.size; have h3 := HRA.out.size; have h4 := HRB.out.size; simp at h3 h4; omega) (by have h1 := HGc.out.size; have h2 := HGd.out.size; omega) (by have h1 := HGc.out.size; have h2 := HGd.out.size; omega) HGd.out
          | exact two9_put HA9.out HB9.out Q2.out Q1.out (by have h1 := HGc.out.size; have h2 := HGd.out.size; have h3 := HRA.out.size; have h4 := HRB.out.size; simp at h3 h4; omega) (by have h1 := HGc.out.size; have h2 := HGd.out.size; omega) (by have h1 := HGc.out.size; have h2 := HGd.out.size; omega) HGd.out
          | exact two9_put HA9.out HB9.out Q2.out Q3.out (by have h1 := HGc.out.size; have h2 := HGd.out.size; have h3 := HRA.out.size; have h4 := HRB.out.size; simp at h3 h4; omega) (by have h1 := HGc.out.size; have h2 := HGd.out.size; omega) (by have h1 := HGc.out.size; have h2 := HGd.out.size; omega) HGd.out
          | exact two9_put HA9.out HB9.out Q3.out Q0.out (by have h1 := HGc.out.size; have h2 := HGd.out.size; have h3 := HRA.out.size; have h4 := HRB.out.size; simp at h3 h4; omega) (by have h1 := HGc.out.size; have h2 := HGd.out.size; omega) (by have h1 := HGc.out.size; have h2 := HGd.out.size; omega) HGd.out
          | exact two9_put HA9.out HB9.out Q3.out Q1.out (by have h1 := HGc.out.size; have h2 := HGd.out.size; have h3 := HRA.out.size; have h4 := HRB.out.size; simp at h3 h4; omega) (by have h1 := HGc.out.size; have h2 := HGd.out.size; omega) (by have h1 := HGc.out.size; have h2 := HGd.out.size; omega) HGd.out
          | exact two9_put HA9.out HB9.out Q3.out Q2.out (by have h1 := HGc.out.size; have h2 := HGd.out.size; have h3 := HRA.out.size; have h4 := HRB.out.size; simp at h3 h4; omega) (by have h1 := HGc.out.size; have h2 := HGd.out.size; omega) (by have h1 := HGc.out.size; have h2 := HGd.out.size; omega) HGd.out
      case rest =>
        obtain ⟨b5, b6, L, M, ca, cb, rfl, rfl, hb5, hb6, hL, hM, hne, hl5, hl6, hg⟩ := hcut
        obtain ⟨w5, hw5⟩ : ∃ w5, w5 = wc := ⟨wc, rfl⟩
        subst hw5
        have HB5 := Lib.hid hb5
        have HB6 := Lib.hid hb6
        have HL := Lib.hid hL
        have HM := Lib.hid hM
        have HGc := Lib.hid hg
        have HNE := Lib.hid hne
        have HLE := Lib.hid (show w4.heap.size ≤ b5 ∧ w4.heap.size ≤ b6 from ⟨hl5, hl6⟩)
        have HGWc := Lib.hid (grown_join (grown_join HG1.out HG4.out (.inr (by simp))) hg (.inr (by simp)))
        have HC5 := Lib.hid (fun w' (hg' : w5.grownBy w' none) => HC.out w' (grown_join hg hg' (.inr (by simp))))
        have HRA := Lib.hid (fun w' (hg' : w5.grownBy w' none) => ref8Right_any A A' n c n' c' s t o w' (HF.out w' (grown_join HGWc.out hg' (.inr (by simp)))).1.1 (HF.out w' (grown_join HGWc.out hg' (.inr (by simp)))).2.1.1 hn.1 hn.2)
        have HRB := Lib.hid (fun w' (hg' : w5.grownBy w' none) => ref8Right_any B B' m d m' d' su tu ou w' (HFU.out w' (grown_join HGWc.out hg' (.inr (by simp)))).1.1 (HFU.out w' (grown_join HGWc.out hg' (.inr (by simp)))).2.1.1 hm.1 hm.2)
        have HIN := Lib.hid (fun w' (hg' : w5.grownBy w' none) => ints9_any A B n m c d s su _ _ w' (HF.out w' (grown_join HGWc.out hg' (.inr (by simp)))).1.1 (HFU.out w' (grown_join HGWc.out hg' (.inr (by simp)))).1.1 hn.1 hm.1)
        obtain ⟨ra, hra⟩ : ∃ ra, rightV ⟨s, t, o⟩ = ra := ⟨_, rfl⟩
        obtain ⟨rb, hrb⟩ : ∃ rb, rightV ⟨su, tu, ou⟩ = rb := ⟨_, rfl⟩
        obtain ⟨eq, heq⟩ : ∃ eq, decide (s = su) = eq := ⟨_, rfl⟩
        have HPL := Lib.hid (show pairsL ⟨s, t, o⟩ ⟨su, tu, ou⟩ = if (ra && rb && eq) = true then (colL ⟨s, t, o⟩).zip (colL ⟨su, tu, ou⟩) else [] by unfold pairsL; rw [hra, hrb, heq])
        have HZL := Lib.hid (zip_len9 (v := ⟨s, t, o⟩) (u := ⟨su, tu, ou⟩) hra hrb heq)
        rw [hra] at HRA
        rw [hrb] at HRB
        rw [heq] at HIN
        clear hb5 hb6 hL hM hne hl5 hl6 hg x0 x1 x2 y0 y1 y2 hra hrb heq
        obtain ⟨x0, x1, x2, y0, y1, y2⟩ := HC5.out _ (grown_refl w5 none)
        go_upto_region 4 with fail
        go_cut [43] from 28 to 42 (fun v wx => v = .bool (!(ra && rb && eq)) ∧ w5.grownBy wx none)
        case first =>
          cases ra with
          | false =>
            go_wp2_with fail
            refine (HRA.out _ (grown_refl _ _)).mono ?_
            rintro e we ⟨rfl, hg⟩
            have HGe := Lib.hid hg
            clear hg x0 x1 x2 y0 y1 y2
            go_wp2_with fail
            go_meet
            exact ⟨rfl, HGe.out⟩
          | true =>
            go_wp2_with fail
            refine (HRA.out _ (grown_refl _ _)).mono ?_
            rintro e we ⟨rfl, hg⟩
            have HGe := Lib.hid hg
            clear hg x0 x1 x2 y0 y1 y2
            obtain ⟨x0, x1, x2, y0, y1, y2⟩ := HC5.out _ HGe.out
            cases rb with
            | false =>
              go_wp2_with fail
              refine (HRB.out _ HGe.out).mono ?_
              rintro e wf ⟨rfl, hg⟩
              have HGf := Lib.hid (grown_join HGe.out hg (.inr (by simp)))
              clear hg x0 x1 x2 y0 y1 y2
              go_wp2_with fail
              go_meet
              exact ⟨rfl, HGf.out⟩
            | true =>
              go_wp2_with fail
              refine (HRB.out _ HGe.out).mono ?_
              rintro e wf ⟨rfl, hg⟩
              have HGf := Lib.hid (grown_join HGe.out hg (.inr (by simp)))
              clear hg x0 x1 x2 y0 y1 y2
              obtain ⟨x0, x1, x2, y0, y1, y2⟩ := HC5.out _ HGf.out
              go_wp2_with fail
              refine (HIN.out _ HGf.out).mono ?_
              rintro e wg ⟨rfl, mq, rfl⟩
              cases eq <;>
              (go_wp2_with fail
               go_meet
               exact ⟨rfl, grown_drewN HGf.out mq⟩)
        case rest =>
          obtain ⟨rfl, hg⟩ := hcut
          have HG56 := Lib.hid hg
          clear hg x0 x1 x2 y0 y1 y2
          obtain ⟨cnd, hcnd⟩ : ∃ cnd, (ra && rb && eq) = cnd := ⟨_, rfl⟩
          rw [hcnd] at HPL HZL ⊢
          clear hcnd
          cases cnd with
          | true =>
            obtain ⟨w6, hw6⟩ : ∃ w6, w6 = wc := ⟨wc, rfl⟩
            subst hw6
            obtain ⟨zs, hzs⟩ : ∃ zs, pairsL ⟨s, t, o⟩ ⟨su, tu, ou⟩ = zs := ⟨_, rfl⟩
            have HZS := Lib.hid hzs
            have HZ8 := Lib.hid (show zs.length ≤ 1048576 by rw [← hzs]; exact pairs_small9 _ _)
            rw [HPL.out, if_pos rfl] at hzs
            have hln := HZL.out rfl
            have hN : (colL ⟨s, t, o⟩).length = zs.length ∧ (colL ⟨su, tu, ou⟩).length = zs.length := by rw [← hzs, List.length_zip]; omega
            have hf : zs.map Prod.fst = colL ⟨s, t, o⟩ := by rw [← hzs]; exact List.map_fst_zip (by omega)
            have hs : zs.map Prod.snd = colL ⟨su, tu, ou⟩ := by rw [← hzs]; exact List.map_snd_zip (by omega)
            have HNL : Hid (NumsF w6 L zs.length ca (zs.map Prod.fst)) := Lib.hid (by rw [hf, ← hN.1]; exact (HL.out.grow HG56.out).numsF)
            have HNM : Hid (NumsF w6 M zs.length cb (zs.map Prod.snd)) := Lib.hid (by rw [hs, ← hN.2]; exact (HM.out.grow HG56.out).numsF)
            have HX5 : Hid (Box w6 b5 22 #[.slice L zs.length ca]) := Lib.hid (by have h1 := HB5.out.grown HG56.out (by simp); rw [hN.1] at h1; exact h1)
            have HX6 : Hid (Box w6 b6 22 #[.slice M zs.length cb]) := Lib.hid (by have h1 := HB6.out.grown HG56.out (by simp); rw [hN.2] at h1; exact h1)
            have HG6 : Hid (w4.grownBy w6 none) := Lib.hid (grown_join HGc.out HG56.out (.inr (by simp)))
            clear hzs hln hN hf hs
            go_wp2_with fail
            obtain ⟨w7, hw7⟩ : ∃ w7, w7 = w6.alloc (.cells #[.int .i64 0] 3) := ⟨_, rfl⟩
            rw [← hw7]
            have HXN : Hid (Box w7 w6.heap.size 3 #[.int .i64 0]) := Lib.hid (by rw [hw7]; exact Box.fresh _ _ _)
            have HG67 : Hid (w6.grownBy w7 none) := Lib.hid (by rw [hw7]; exact World.grownBy_alloc _ _ _)
            have HG7 := Lib.hid (grown_join HG6.out HG67.out (.inr (by simp)))
            have HGW4 := Lib.hid (grown_join HG1.out HG4.out (.inr (by simp)))
            have HGW7 := Lib.hid (grown_join HGW4.out HG7.out (.inr (by simp)))
            have HC7 := Lib.hid (fun w' (hg' : w7.grownBy w' none) => HC.out w' (grown_join HG7.out hg' (.inr (by simp))))
            have HPA := Lib.hid (fun w' (hg' : w7.grownBy w' none) => HRS.out.pairs A n c A' n' c' ⟨s, t, o⟩ B m d B' m' d' ⟨su, tu, ou⟩ w' (HF.out w' (grown_join HGW7.out hg' (.inr (by simp)))) ho (HFU.out w' (grown_join HGW7.out hg' (.inr (by simp)))) hou)
            rw [HZS.out] at HPA
            clear hw7
            obtain ⟨x0, x1, x2, y0, y1, y2⟩ := HC7.out _ (grown_refl w7 none)
            go_region_held3 (fun w' => w'.cell? ⟨w.heap.size, 0, none⟩ = some (.slice A n c) ∧ w'.cell? ⟨w.heap.size, 1, none⟩ = some (.slice A' n' c') ∧ w'.cell? ⟨w.heap.size, 2, none⟩ = some (.int .i64 o) ∧ w'.cell? ⟨w.heap.size + 1, 0, none⟩ = some (.slice B m d) ∧ w'.cell? ⟨w.heap.size + 1, 1, none⟩ = some (.slice B' m' d') ∧ w'.cell? ⟨w.heap.size + 1, 2, none⟩ = some (.int .i64 ou)) (first | exact HC7.out _ (by repeat (first | exact grown_refl _ _ | exact HGj.out | exact HGi.out | exact HGh.out | refine grown_drew ?_ | refine grown_drewN ?_ _)) | go_keep) (first
              | (go_at_call 23; refine (HPA.out _ HGi.out).mono ?_; rintro e wj ⟨hgj, gf, lb, rfl, hplain, hseq⟩; have HPLN := Lib.hid hplain; have HSEQ := Lib.hid hseq; have HGij := Lib.hid hgj; have HGj := Lib.hid (grown_join HGi.out hgj (.inr (by simp))); clear hgj hplain hseq)
              | (go_at_call 10; (with_reducible refine (own8_any A A' n c n' c' o _).mono ?_); rintro e wh ⟨rfl, hg⟩; have HGh : Hid (w7.grownBy wh none) := Lib.hid (grown_join (by repeat (first | exact grown_refl _ _ | refine grown_drewN ?_ _ | refine grown_drew ?_)) hg (.inr (by simp))); clear hg)
              | (go_at_call 10; (with_reducible refine (own8_any B B' m d m' d' ou _).mono ?_); rintro e wi ⟨rfl, hg⟩; have HGi : Hid (w7.grownBy wi none) := Lib.hid (grown_join HGh.out hg (.inr (by simp))); clear hg))
            clear x0 x1 x2 y0 y1 y2
            go_wp2_with fail
            have HTN := Lib.hid (show w6.heap.size < w7.heap.size ∧ w7.heap.size ≤ wi.heap.size ∧ wi.heap.size ≤ wj.heap.size from ⟨HXN.out.small, HGi.out.size, HGij.out.size⟩)
            have HSS := Lib.hid (show w.heap.size + 1 + 1 < w1.heap.size ∧ w1.heap.size ≤ w4.heap.size ∧ w4.heap.size ≤ w6.heap.size from ⟨HBR.out.small, HG4.out.size, HG6.out.size⟩)
            obtain ⟨X, hX⟩ : ∃ X : Nat → Prop, X = fun x => x = w6.heap.size ∨ x = w.heap.size + 1 + 1 := ⟨_, rfl⟩
            have HXT := Lib.hid (show X w6.heap.size ∧ X (w.heap.size + 1 + 1) by rw [hX]; exact ⟨.inl rfl, .inr rfl⟩)
            have HXX := Lib.hid (show ∀ x, X x → x < wi.heap.size ∧ (Clear A n A' n' x ∧ Clear B m B' m' x) by
              rw [hX]
              have h1 := HTN.out
              have h2 := HSS.out
              rintro x (rfl | rfl)
              · exact ⟨by omega, clear_new (HF.out w (grown_refl _ _)) (by omega), clear_new (HFU.out w (grown_refl _ _)) (by omega)⟩
              · exact ⟨by omega, clear_new (HF.out w (grown_refl _ _)) (by omega), clear_new (HFU.out w (grown_refl _ _)) (by omega)⟩)
            have HSX := Lib.hid (HSEQ.out 8 wj X (by omega) (grown_refl _ _) HXX.out)
            have HG6j := Lib.hid (grown_join HG67.out HGj.out (.inr (by simp)))
            have HXN9 := Lib.hid (HXN.out.grown HGj.out (by simp))
            clear hX
            refine (wpIn_wide (n := 9)).1 ?_
            refine range_own (by omega) (gf := gf) (lb := lb) rfl HPLN.out HSX.out (fun h1 h2 => keepX_t h1 h2) (fun W l o o' h1 h2 h3 h4 => keepX_b W l o o' h1 h2 h3 h4) (fun _ => rfl)
              (fun pre W => pre = zs.take pre.length ∧ pre.length ≤ zs.length ∧ Box W w6.heap.size 3 #[.int .i64 (pre.length : Nat)] ∧ wj.grownBy W (some w6.heap.size))
              (fun c pre W => c = .ret ∧ ∃ (pre' : List (Int × Int)) (x : Int × Int), pre = pre' ++ [x] ∧ ¬ (x = zs.getD pre'.length (0, 0)))
              (fun pre Wa Wb row hs hg hr => ⟨hs.1, hs.2.1, hs.2.2.1.grown hg (fun e => by have h1 := (hr _ e.symm).1; have h2 := HTN.out; omega), grown_join hs.2.2.2 hg (.inr fun z e => (hr z e).1)⟩)
              (fun c pre Wa Wb row hs hg hr => hs) ⟨rfl, Nat.zero_le _, HXN9.out, grown_more (grown_refl _ _) _⟩
              (fun x => { tmps := #[.agg #[.slice A n c, .slice A' n' c', .int .i64 o], .agg #[.slice B m d, .slice B' m' d', .int .i64 ou], .pointer (some ⟨w.heap.size, 0, none⟩), .pointer (some ⟨w.heap.size + 1, 0, none⟩), .pointer (some ⟨w.heap.size + 1 + 1, 0, none⟩), .pointer (some ⟨b5, 0, none⟩), .pointer (some ⟨b6, 0, none⟩), .pointer (some ⟨w6.heap.size, 0, none⟩), .int .i64 x.1, .int .i64 x.2, undef, .agg #[.slice A n c, .slice A' n' c', .int .i64 o], .bool true, .bool false, .bool false, .agg #[.slice B m d, .slice B' m' d', .int .i64 ou], .bool true, .bool false, .bool false, .bool false, .bool true, .bool false, .bool false, undef, u24, u25, u26, u27, u28, u29, u30, u31, u32, u33, u34, u35, u36, u37, u38, u39, u40, u41, u42, .bool false, .agg #[.slice A n c, .slice A' n' c', .int .i64 o], .agg #[.slice A n c, .slice A' n' c', .int .i64 o], .agg #[.slice B m d, .slice B' m' d', .int .i64 ou], .agg #[.slice B m d, .slice B' m' d', .int .i64 ou], .func (.func gf) #[] lb, .int .i64 x.1, .int .i64 x.2, undef, undef, undef, undef, undef, undef, undef, undef, undef, undef, undef, undef, undef, undef, undef, undef, undef, undef, undef, undef, undef, undef, undef, undef, undef, undef, undef, undef, undef, undef, undef, undef, undef, undef, undef, undef, undef, undef, undef, undef, undef, undef, undef, undef, undef, undef, undef, undef, undef, undef, undef, undef, undef, undef], defers := [] }) ?assign ?body ?done ?stop
            case assign =>
              intro l x W K hK
              dsimp only [enc2]
              gi_wp2
              exact hK
            case body =>
              rintro l2 pre x W ⟨hp, hpl, hb, hg⟩ hlt
              have HP := Lib.hid hp
              have HB := Lib.hid hb
              have HG := Lib.hid hg
              have hgt : w6.grownBy W (some w6.heap.size) := grown_join (grown_more HG6j.out _) hg (.inl rfl)
              have h5 := HX5.out.grown hgt (fun e => by injection e with e; have := HX5.out.small; omega)
              have h6 := HX6.out.grown hgt (fun e => by injection e with e; have := HX6.out.small; omega)
              obtain ⟨z, hz⟩ : ∃ z, zs.getD pre.length (0, 0) = z := ⟨_, rfl⟩
              have HZ := Lib.hid hz
              have hcL : ∃ bl ol, L = some ⟨bl, ol, none⟩ ∧ W.cell? ⟨bl, ol + pre.length, none⟩ = some (.int .i64 z.1) := by
                obtain ⟨bl, ol, e, hbl, hc⟩ := HNL.out.1.2.at_ hlt
                refine ⟨bl, ol, e, (hgt.cell_far ⟨bl, ol + pre.length, none⟩ hbl (fun e => by injection e with e; have e' : bl = w6.heap.size := e; omega)).trans ?_⟩
                rw [hc, fst_get9 hlt, hz]
              have hcM : ∃ bm om, M = some ⟨bm, om, none⟩ ∧ W.cell? ⟨bm, om + pre.length, none⟩ = some (.int .i64 z.2) := by
                obtain ⟨bl, ol, e, hbl, hc⟩ := HNM.out.1.2.at_ hlt
                refine ⟨bl, ol, e, (hgt.cell_far ⟨bl, ol + pre.length, none⟩ hbl (fun e => by injection e with e; have e' : bl = w6.heap.size := e; omega)).trans ?_⟩
                rw [hc, snd_get9 hlt, hz]
              have hR := ((HBR.out.grown HG4.out (by simp)).grown HG6.out (by simp)).grown hgt (fun e => by injection e with e; have := HSS.out; omega)
              obtain ⟨bl, ol, rfl, cL⟩ := hcL
              obtain ⟨bm, om, rfl, cM⟩ := hcM
              have b0 := h5.get 0
              have b1 := h6.get 0
              have n0 := hb.get 0
              have nf := hb.free 0
              have r0 := hR.get 0
              have rf := hR.free 0
              have hzs8 : zs.length ≤ 1048576 := HZ8.out
              have HTK := Lib.hid (fun (x : Int × Int) (hx : x = zs.getD pre.length (0, 0)) => take_next9 (zs := zs) (pre := pre) hp hlt hx)
              obtain ⟨j, hj⟩ : ∃ j, pre.length = j := ⟨_, rfl⟩
              rw [hj] at cL cM n0 hlt hz HZ HB
              have HJ := Lib.hid hj
              obtain ⟨z1, z2⟩ := z
              obtain ⟨q1, q2⟩ := x
              dsimp only at cL cM ⊢
              have d0 : decide ((zs.length : Int) ≤ (j : Int)) = false := decide_eq_false (by omega)
              have d1 : decide (zs.length ≤ j) = false := decide_eq_false (by omega)
              have d2 : decide ((j : Int) < 0) = false := decide_eq_false (by omega)
              have w0 : IntKind.i64.wrap ((j : Int) + 1) = (j : Int) + 1 := IntWalk.i64_in _ (by omega)
              have w1' : wrap64 ((j : Int) + 1) = (j : Int) + 1 := IntWalk.wrap64_in _ (by omega)
              have HGN := Lib.hid (grown_put (j := 0) hg (.inl rfl) (.int .i64 ((j : Int) + 1)))
              have HBN := Lib.hid (hb.put 0 (.int .i64 ((j : Int) + 1)))
              clear hp hb hg hgt h5 h6 hz hj hR hpl
              by_cases e1 : q1 = z1
              · have t1 : (q1 != z1) = false := by simp [e1]
                by_cases e2 : q2 = z2
                · have t2 : (q2 != z2) = false := by simp [e2]
                  have HI := Lib.hid (HTK.out (q1, q2) (by rw [HJ.out, HZ.out, e1, e2]))
                  clear e1 e2
                  gi_wp2
                  exact ⟨KeepsOthers.setCell _ _ _, keepX_put (keepX_refl _ _) HXT.out.1 _, HI.out.1, HI.out.2, by rw [List.length_append, List.length_singleton, HJ.out]; exact HBN.out, HGN.out⟩
                · have t2 : (q2 != z2) = true := by simp [e2]
                  have HE := Lib.hid e2
                  clear e1 e2
                  gi_wp2
                  exact ⟨KeepsOthers.setCell _ _ _, rfl, pre, (q1, q2), rfl, fun h => HE.out (by rw [HJ.out, HZ.out] at h; injection h)⟩
              · have t1 : (q1 != z1) = true := by simp [e1]
                have HE := Lib.hid e1
                clear e1
                gi_wp2
                exact ⟨KeepsOthers.setCell _ _ _, rfl, pre, (q1, q2), rfl, fun h => HE.out (by rw [HJ.out, HZ.out] at h; injection h)⟩
            case done =>
              rintro D ys W hD hys ⟨hp, hpl, hb, hg⟩ hK
              have hys2 : zs = ys := hys.symm
              subst hys2
              have HG6W : Hid (w6.grownBy W none) := Lib.hid (grown_join HG6j.out hg (.inr fun z e => by injection e with e; omega))
              have HKD := Lib.hid hK
              have HBN0 := Lib.hid hb
              have HDS := Lib.hid (show D < W.heap.size from (Array.getElem?_eq_some_iff.1 hK).1)
              clear hp hpl hb hg hK
              go_upto_region 14 with fail
              obtain ⟨w11, hw11⟩ : ∃ w11, w11 = W.alloc (.cells #[.int .i64 0] 3) := ⟨_, rfl⟩
              rw [← hw11]
              have HXK : Hid (Box w11 W.heap.size 3 #[.int .i64 0]) := Lib.hid (by rw [hw11]; exact Box.fresh _ _ _)
              have HGW11 : Hid (W.grownBy w11 none) := Lib.hid (by rw [hw11]; exact World.grownBy_alloc _ _ _)
              have HG11 := Lib.hid (grown_join (grown_join HG6.out HG6W.out (.inr (by simp))) HGW11.out (.inr (by simp)))
              have HGV11 := Lib.hid (grown_join HGW4.out HG11.out (.inr (by simp)))
              have HC11 := Lib.hid (fun w' (hg' : w11.grownBy w' none) => HC.out w' (grown_join HG11.out hg' (.inr (by simp))))
              have HPA2 := Lib.hid (fun w' (hg' : w11.grownBy w' none) => HRS.out.pairs A n c A' n' c' ⟨s, t, o⟩ B m d B' m' d' ⟨su, tu, ou⟩ w' (HF.out w' (grown_join HGV11.out hg' (.inr (by simp)))) ho (HFU.out w' (grown_join HGV11.out hg' (.inr (by simp)))) hou)
              rw [HZS.out] at HPA2
              clear hw11
              obtain ⟨x0, x1, x2, y0, y1, y2⟩ := HC11.out _ (grown_refl w11 none)
              go_region_held3 (fun w' => w'.cell? ⟨w.heap.size, 0, none⟩ = some (.slice A n c) ∧ w'.cell? ⟨w.heap.size, 1, none⟩ = some (.slice A' n' c') ∧ w'.cell? ⟨w.heap.size, 2, none⟩ = some (.int .i64 o) ∧ w'.cell? ⟨w.heap.size + 1, 0, none⟩ = some (.slice B m d) ∧ w'.cell? ⟨w.heap.size + 1, 1, none⟩ = some (.slice B' m' d') ∧ w'.cell? ⟨w.heap.size + 1, 2, none⟩ = some (.int .i64 ou)) (first | exact HC11.out _ (by repeat (first | exact grown_refl _ _ | exact HGj2.out | exact HGi2.out | exact HGh2.out | refine grown_drew ?_ | refine grown_drewN ?_ _)) | go_keep) (first
                | (go_at_call 23; refine (HPA2.out _ HGi2.out).mono ?_; rintro e wj2 ⟨hgj, gf2, lb2, rfl, hplain, hseq⟩; have HPLN2 := Lib.hid hplain; have HSEQ2 := Lib.hid hseq; have HGij2 := Lib.hid hgj; have HGj2 := Lib.hid (grown_join HGi2.out hgj (.inr (by simp))); clear hgj hplain hseq)
                | (go_at_call 10; (with_reducible refine (own8_any A A' n c n' c' o _).mono ?_); rintro e wh2 ⟨rfl, hg⟩; have HGh2 : Hid (w11.grownBy wh2 none) := Lib.hid (grown_join (by repeat (first | exact grown_refl _ _ | refine grown_drewN ?_ _ | refine grown_drew ?_)) hg (.inr (by simp))); clear hg)
                | (go_at_call 10; (with_reducible refine (own8_any B B' m d m' d' ou _).mono ?_); rintro e wi2 ⟨rfl, hg⟩; have HGi2 : Hid (w11.grownBy wi2 none) := Lib.hid (grown_join HGh2.out hg (.inr (by simp))); clear hg))
              clear x0 x1 x2 y0 y1 y2
              go_wp2_with fail
              have HTK := Lib.hid (show W.heap.size < w11.heap.size ∧ w11.heap.size ≤ wi2.heap.size ∧ wi2.heap.size ≤ wj2.heap.size ∧ w6.heap.size ≤ W.heap.size from ⟨HXK.out.small, HGi2.out.size, HGij2.out.size, HG6W.out.size⟩)
              have HXX2 := Lib.hid (show ∀ x, (fun x => x = W.heap.size) x → x < wi2.heap.size ∧ (Clear A n A' n' x ∧ Clear B m B' m' x) by
                have h1 := HTK.out
                have h2 := HSS.out
                rintro x rfl
                exact ⟨by omega, clear_new (HF.out w (grown_refl _ _)) (by omega), clear_new (HFU.out w (grown_refl _ _)) (by omega)⟩)
              have HSX2 := Lib.hid (HSEQ2.out 8 wj2 (fun x => x = W.heap.size) (by omega) (grown_refl _ _) HXX2.out)
              have HXK9 := Lib.hid (HXK.out.grown HGj2.out (by simp))
              refine (wpIn_wide (n := 9)).1 ?_
              refine range_own (by omega) (gf := gf2) (lb := lb2) rfl HPLN2.out HSX2.out (fun h1 h2 => keepX_t h1 h2) (fun W l o o' h1 h2 h3 h4 => keepX_b W l o o' h1 h2 h3 h4) (fun _ => rfl)
                (fun pre W2 => pre.length < 3 ∧ Box W2 W.heap.size 3 #[.int .i64 (pre.length : Nat)] ∧ wj2.grownBy W2 (some W.heap.size))
                (fun c pre W2 => c = .exit 2 ∧ pre.length = 3 ∧ Box W2 W.heap.size 3 #[.int .i64 3] ∧ wj2.grownBy W2 (some W.heap.size))
                (fun pre Wa Wb row hs hg hr => ⟨hs.1, hs.2.1.grown hg (fun e => by have h1 := (hr _ e.symm).1; have h2 := HTK.out; omega), grown_join hs.2.2 hg (.inr fun z e => (hr z e).1)⟩)
                (fun c pre Wa Wb row hs hg hr => ⟨hs.1, hs.2.1, hs.2.2.1.grown hg (fun e => by have h1 := (hr _ e.symm).1; have h2 := HTK.out; omega), grown_join hs.2.2.2 hg (.inr fun z e => (hr z e).1)⟩) ⟨by simp, HXK9.out, grown_more (grown_refl _ _) _⟩
                (fun x => { tmps := #[.agg #[.slice A n c, .slice A' n' c', .int .i64 o], .agg #[.slice B m d, .slice B' m' d', .int .i64 ou], .pointer (some ⟨w.heap.size, 0, none⟩), .pointer (some ⟨w.heap.size + 1, 0, none⟩), .pointer (some ⟨w.heap.size + 1 + 1, 0, none⟩), .pointer (some ⟨b5, 0, none⟩), .pointer (some ⟨b6, 0, none⟩), .pointer (some ⟨w6.heap.size, 0, none⟩), undef, undef, .pointer (some ⟨W.heap.size, 0, none⟩), .agg #[.slice A n c, .slice A' n' c', .int .i64 o], .bool true, .bool false, .bool false, .agg #[.slice B m d, .slice B' m' d', .int .i64 ou], .bool true, .bool false, .bool false, .bool false, .bool true, .bool false, .bool false, undef, u24, u25, u26, u27, u28, u29, u30, u31, u32, u33, u34, u35, u36, u37, u38, u39, u40, u41, u42, .bool false, .agg #[.slice A n c, .slice A' n' c', .int .i64 o], .agg #[.slice A n c, .slice A' n' c', .int .i64 o], .agg #[.slice B m d, .slice B' m' d', .int .i64 ou], .agg #[.slice B m d, .slice B' m' d', .int .i64 ou], .func (.func gf) #[] lb, undef, undef, undef, undef, undef, undef, undef, undef, undef, undef, undef, undef, undef, undef, undef, undef, undef, undef, undef, undef, undef, undef, undef, undef, .agg #[.slice A n c, .slice A' n' c', .int .i64 o], .agg #[.slice A n c, .slice A' n' c', .int .i64 o], .agg #[.slice B m d, .slice B' m' d', .int .i64 ou], .agg #[.slice B m d, .slice B' m' d', .int .i64 ou], .func (.func gf2) #[] lb2, .int .i64 x.1, .int .i64 x.2, undef, undef, undef, undef, undef, undef, undef, undef, undef, undef, undef, undef, undef, undef, undef, undef, undef, undef, undef, undef, undef, undef, undef, undef, undef], defers := [] }) ?assign2 ?body2 ?done2 ?stop2
              case assign2 =>
                intro l x W2 K hK2
                dsimp only [enc2]
                gi_wp2
                exact hK2
              case body2 =>
                rintro l2 pre x W2 ⟨hl, hb, hg⟩ hlt
                obtain ⟨j, hj⟩ : ∃ j, pre.length = j := ⟨_, rfl⟩
                rw [hj] at hl hb
                have HJ := Lib.hid hj
                have n0 := hb.get 0
                have nf := hb.free 0
                have HBN := Lib.hid (hb.put 0 (.int .i64 ((j : Int) + 1)))
                have HGN := Lib.hid (grown_put (j := 0) hg (.inl rfl) (.int .i64 ((j : Int) + 1)))
                obtain ⟨m0, m1, m2⟩ := cells_put9 hb (.int .i64 ((j : Int) + 1))
                have v0 : IntKind.i64.wrap ((j : Int) + 1) = (j : Int) + 1 := IntWalk.i64_in _ (by omega)
                have v1 : wrap64 ((j : Int) + 1) = (j : Int) + 1 := IntWalk.wrap64_in _ (by omega)
                clear hb hg hlt
                by_cases e3 : j = 2
                · subst e3
                  gi_wp2
                  exact ⟨KeepsOthers.setCell _ _ _, rfl, by rw [List.length_append, List.length_singleton, HJ.out], HBN.out, HGN.out⟩
                · have v2 : (((j : Int) + 1) == 3) = false := by simp; omega
                  have v3 : ¬ ((j : Int) + 1 = 3) := by omega
                  gi_wp2
                  exact ⟨KeepsOthers.setCell _ _ _, keepX_put (X := fun x => x = W.heap.size) (keepX_refl _ _) rfl _, by rw [List.length_append, List.length_singleton, HJ.out]; omega, by rw [List.length_append, List.length_singleton, HJ.out]; exact HBN.out, HGN.out⟩
              case done2 =>
                rintro D2 ys W2 hD2 hys ⟨hl, hb, hg⟩ hK2
                have hys2 : zs = ys := hys.symm
                subst hys2
                have HB2K := Lib.hid hb
                have HL3 : Hid (zs.length < 3) := Lib.hid hl
                clear hb hl
                have HG2W : Hid (W.grownBy W2 none) := Lib.hid (grown_join (grown_join HGW11.out HGj2.out (.inr (by simp))) hg (.inr fun z e => by injection e with e; omega))
                have HG62 : Hid (w6.grownBy W2 none) := Lib.hid (grown_join HG6W.out HG2W.out (.inr (by simp)))
                have HG42 := Lib.hid (grown_join HG6.out HG62.out (.inr (by simp)))
                have HGV2 := Lib.hid (grown_join HGW4.out HG42.out (.inr (by simp)))
                have HKD2 := Lib.hid hK2
                have HD2S := Lib.hid (show D2 < W2.heap.size from (Array.getElem?_eq_some_iff.1 hK2).1)
                have HNK2 := Lib.hid (show D2 ≠ W.heap.size by have := HTK.out; omega)
                have HD12 := Lib.hid (show D ≠ D2 by have := HTK.out; have := HDS.out; omega)
                clear hg hK2
                obtain ⟨x0, x1, x2, _, _, _⟩ := HC.out W2 HG42.out
                go_wp2_with fail
                refine (own8_any A A' n c n' c' o W2).mono ?_
                rintro e wk ⟨rfl, hg⟩
                have HGk := Lib.hid hg
                clear hg x0 x1 x2
                go_wp2_with fail
                refine (HRS.out.offsets A n c A' n' c' ⟨s, t, o⟩ wk (HF.out wk (grown_join HGV2.out HGk.out (.inr (by simp)))) ho).mono ?_
                rintro e wl ⟨hgl, gf3, lb3, rfl, hplain, hseq⟩
                have HPLN3 := Lib.hid hplain
                have HSEQ3 := Lib.hid hseq
                have HGl := Lib.hid hgl
                clear hgl hplain hseq
                go_wp2_with fail
                have HTL := Lib.hid (show W.heap.size < W2.heap.size ∧ W2.heap.size ≤ wk.heap.size ∧ wk.heap.size ≤ wl.heap.size from ⟨HB2K.out.small, HGk.out.size, HGl.out.size⟩)
                have HXX3 := Lib.hid (show ∀ x, (fun x => x = W.heap.size) x → x < wk.heap.size ∧ Clear A n A' n' x by
                  have h1 := HTL.out
                  have h2 := HTK.out
                  have h3 := HSS.out
                  rintro x rfl
                  exact ⟨by omega, clear_new (HF.out w (grown_refl _ _)) (by omega)⟩)
                have HSX3 := Lib.hid (HSEQ3.out 8 wl (fun x => x = W.heap.size) (by omega) (grown_refl _ _) HXX3.out)
                have HXL9 := Lib.hid ((HB2K.out.grown HGk.out (by simp)).grown HGl.out (by simp))
                refine (wpIn_wide (n := 9)).1 ?_
                refine range_own (by omega) (gf := gf3) (lb := lb3) rfl HPLN3.out HSX3.out (fun h1 h2 => keepX_t h1 h2) (fun W l o o' h1 h2 h3 h4 => keepX_b W l o o' h1 h2 h3 h4) (fun _ => rfl)
                  (fun pre W3 => pre = [] ∧ Box W3 W.heap.size 3 #[.int .i64 ((zs.length : Nat))] ∧ wl.grownBy W3 (some W.heap.size))
                  (fun c pre W3 => c = .exit 4 ∧ pre.length = 1 ∧ Box W3 W.heap.size 3 #[.int .i64 ((zs.length : Int) + 1)] ∧ wl.grownBy W3 (some W.heap.size))
                  (fun pre Wa Wb row hs hg hr => ⟨hs.1, hs.2.1.grown hg (fun e => by have h1 := (hr _ e.symm).1; have h2 := HTL.out; omega), grown_join hs.2.2 hg (.inr fun z e => (hr z e).1)⟩)
                  (fun c pre Wa Wb row hs hg hr => ⟨hs.1, hs.2.1, hs.2.2.1.grown hg (fun e => by have h1 := (hr _ e.symm).1; have h2 := HTL.out; omega), grown_join hs.2.2.2 hg (.inr fun z e => (hr z e).1)⟩) ⟨rfl, HXL9.out, grown_more (grown_refl _ _) _⟩
                  (fun x => { tmps := #[.agg #[.slice A n c, .slice A' n' c', .int .i64 o], .agg #[.slice B m d, .slice B' m' d', .int .i64 ou], .pointer (some ⟨w.heap.size, 0, none⟩), .pointer (some ⟨w.heap.size + 1, 0, none⟩), .pointer (some ⟨w.heap.size + 1 + 1, 0, none⟩), .pointer (some ⟨b5, 0, none⟩), .pointer (some ⟨b6, 0, none⟩), .pointer (some ⟨w6.heap.size, 0, none⟩), undef, undef, .pointer (some ⟨W.heap.size, 0, none⟩), .agg #[.slice A n c, .slice A' n' c', .int .i64 o], .bool true, .bool false, .bool false, .agg #[.slice B m d, .slice B' m' d', .int .i64 ou], .bool true, .bool false, .bool false, .bool false, .bool true, .bool false, .bool false, undef, u24, u25, u26, u27, u28, u29, u30, u31, u32, u33, u34, u35, u36, u37, u38, u39, u40, u41, u42, .bool false, .agg #[.slice A n c, .slice A' n' c', .int .i64 o], .agg #[.slice A n c, .slice A' n' c', .int .i64 o], .agg #[.slice B m d, .slice B' m' d', .int .i64 ou], .agg #[.slice B m d, .slice B' m' d', .int .i64 ou], .func (.func gf) #[] lb, undef, undef, undef, undef, undef, undef, undef, undef, undef, undef, undef, undef, undef, undef, undef, undef, undef, undef, undef, undef, undef, undef, undef, undef, .agg #[.slice A n c, .slice A' n' c', .int .i64 o], .agg #[.slice A n c, .slice A' n' c', .int .i64 o], .agg #[.slice B m d, .slice B' m' d', .int .i64 ou], .agg #[.slice B m d, .slice B' m' d', .int .i64 ou], .func (.func gf2) #[] lb2, undef, undef, undef, undef, undef, undef, .agg #[.slice A n c, .slice A' n' c', .int .i64 o], .agg #[.slice A n c, .slice A' n' c', .int .i64 o], .func (.func gf3) #[] lb3, .int .i64 x, undef, undef, undef, undef, undef, undef, undef, undef, undef, undef, undef, undef, undef, undef, undef, undef, undef], defers := [] }) ?assign3 ?body3 ?done3 ?stop3
                case assign3 =>
                  intro l x W3 K hK3
                  dsimp only [enc1]
                  gi_wp2
                  exact hK3
                case body3 =>
                  rintro l2 pre x W3 ⟨rfl, hb, hg⟩ hlt
                  have n0 := hb.get 0
                  have nf := hb.free 0
                  have hz8 := HZ8.out
                  have HBN := Lib.hid (hb.put 0 (.int .i64 ((zs.length : Int) + 1)))
                  have HGN := Lib.hid (grown_put (j := 0) hg (.inl rfl) (.int .i64 ((zs.length : Int) + 1)))
                  have v0 : IntKind.i64.wrap ((zs.length : Int) + 1) = (zs.length : Int) + 1 := IntWalk.i64_in _ (by omega)
                  have v1 : wrap64 ((zs.length : Int) + 1) = (zs.length : Int) + 1 := IntWalk.wrap64_in _ (by omega)
                  clear hb hg hlt
                  gi_wp2
                  exact ⟨KeepsOthers.setCell _ _ _, rfl, rfl, HBN.out, HGN.out⟩
                case done3 =>
                  rintro D3 ys W3 hD3 hys ⟨hnil, hb, hg⟩ hK3
                  have HCL := Lib.hid (show (colL ⟨s, t, o⟩).length = 0 by rw [← hys, hnil]; rfl)
                  have HD3L := Lib.hid hD3
                  have HD23 := Lib.hid (show D2 ≠ D3 by have := HD2S.out; have := HTL.out; omega)
                  have HD13 := Lib.hid (show D ≠ D3 by have := HDS.out; have := HTL.out; omega)
                  clear hys hnil
                  have HG3W : Hid (W.grownBy W3 none) := Lib.hid (grown_join (grown_join (grown_join HG2W.out HGk.out (.inr (by simp))) HGl.out (.inr (by simp))) hg (.inr fun z e => by injection e with e; omega))
                  have HG63 : Hid (w6.grownBy W3 none) := Lib.hid (grown_join HG6W.out HG3W.out (.inr (by simp)))
                  have HG43 := Lib.hid (grown_join HG6.out HG63.out (.inr (by simp)))
                  have HB3K := Lib.hid hb
                  have HKD3 := Lib.hid hK3
                  have HD3S := Lib.hid (show D3 < W3.heap.size from (Array.getElem?_eq_some_iff.1 hK3).1)
                  have HKD2' : Hid (W3.heap[D2]? = some (.deferred (some []))) := Lib.hid (((grown_join (grown_more (grown_join HGk.out HGl.out (.inr (by simp))) (some W.heap.size)) hg (.inl rfl)).block D2 HD2S.out (fun e => by injection e with e; exact HNK2.out e)).trans HKD2.out)
                  have HKD1' : Hid (W3.heap[D]? = some (.deferred (some []))) := Lib.hid ((HG3W.out.block D HDS.out (by simp)).trans HKD.out)
                  have hne5 := HX5.out.small
                  have hss := HSS.out
                  have htk := HTK.out
                  have hwl := HLE.out
                  have HC19 := Lib.hid (fun w' (hg' : W3.grownBy w' (some (w.heap.size + 1 + 1))) => cells_last9 ((HB1.out.grown (grown_join HG4.out HG43.out (.inr (by simp))) (by simp)).grown hg' (fun e => by injection e with e; omega)) ((HBN0.out.grown HG3W.out (by simp)).grown hg' (fun e => by injection e with e; omega)) ((HX5.out.grown HG63.out (by simp)).grown hg' (fun e => by injection e with e; omega)) (hb.grown hg' (fun e => by injection e with e; omega)))
                  have HRR := Lib.hid (HBR.out.grown (grown_join HG4.out HG43.out (.inr (by simp))) (by simp))
                  have HCA19 := Lib.hid (fun w' (hg' : W3.grownBy w' none) => ref9Collect_any A A' n c n' c' s t o w' (HF.out w' (grown_join (grown_join HGW4.out HG43.out (.inr (by simp))) hg' (.inr (by simp)))).1 (HF.out w' (grown_join (grown_join HGW4.out HG43.out (.inr (by simp))) hg' (.inr (by simp)))).2.1 hn.1 hn.2)
                  obtain ⟨x0, x1, x2, x3, x4, x5⟩ := HC19.out _ (grown_refl W3 _)
                  have j0 : (((zs.length : Nat) : Int) == ((zs.length : Nat) : Int)) = true := by simp
                  have hz8 := HZ8.out
                  have j1 : (zs.length : Int) < 3 := by have := HL3.out; omega
                  have j2 : True := trivial
                  have j3 : IntKind.i64.wrap ((zs.length : Int)) = (zs.length : Int) := IntWalk.i64_in _ (by omega)
                  have j4 : wrap64 ((zs.length : Int)) = (zs.length : Int) := IntWalk.wrap64_in _ (by omega)
                  have j5 : (((zs.length : Int)) == ((zs.length : Int))) = true := by simp
                  have HDW := Lib.hid (show w.heap.size ≤ D ∧ w.heap.size ≤ D2 ∧ w.heap.size ≤ D3 by have := HTN.out; have := HTL.out; omega)
                  clear hb hg hK3
                  try clear HK
                  try clear HLI
                  try clear HLI2
                  try clear HRS
                  try clear HW1
                  try clear HC1
                  try clear HC2
                  try clear HCR
                  try clear HLB
                  try clear HLB2
                  try clear HF
                  try clear HFU
                  try clear HC
                  try clear HCA
                  try clear HCB
                  try clear HB1
                  try clear HB2
                  try clear HBR
                  try clear HG1
                  try clear HG2
                  try clear HG3
                  try clear HG4
                  try clear HB5
                  try clear HB6
                  try clear HL
                  try clear HM
                  try clear HGc
                  try clear HNE
                  try clear HLE
                  try clear HGWc
                  try clear HC5
                  try clear HRA
                  try clear HRB
                  try clear HIN
                  try clear HPL
                  try clear HZL
                  try clear HG56
                  try clear HZS
                  try clear HZ0
                  try clear HNL
                  try clear HNM
                  try clear HX5
                  try clear HX6
                  try clear HG6
                  try clear HXN
                  try clear HG67
                  try clear HG7
                  try clear HGW7
                  try clear HC7
                  try clear HPA
                  try clear HGh
                  try clear HGi
                  try clear HGj
                  try clear HGij
                  try clear HPLN
                  try clear HSEQ
                  try clear HTN
                  try clear HSS
                  try clear HXT
                  try clear HXX
                  try clear HSX
                  try clear HG6j
                  try clear HXN9
                  try clear HG6W
                  try clear HKD
                  try clear HBN0
                  try clear HDS
                  try clear HXK
                  try clear HGW11
                  try clear HG11
                  try clear HGV11
                  try clear HC11
                  try clear HPA2
                  try clear HGh2
                  try clear HGi2
                  try clear HGj2
                  try clear HGij2
                  try clear HPLN2
                  try clear HSEQ2
                  try clear HTK
                  try clear HXX2
                  try clear HSX2
                  try clear HXK9
                  try clear HB2K
                  try clear HL3
                  try clear HG2W
                  try clear HG62
                  try clear HG42
                  try clear HGV2
                  try clear HKD2
                  try clear HD2S
                  try clear HNK2
                  try clear HGk
                  try clear HGl
                  try clear HPLN3
                  try clear HSEQ3
                  try clear HTL
                  try clear HXX3
                  try clear HSX3
                  try clear HXL9
                  try clear HG3W
                  try clear HG63
                  try clear HB3K
                  try clear HD3S
                  try clear HD3L
                  try clear HZ8
                  try clear hne5
                  try clear hss
                  try clear htk
                  try clear hwl
                  try clear hz8
                  try clear hD
                  try clear hD2
                  try clear hD3
                  try clear ho
                  try clear hou
                  try clear h
                  try clear h'
                  try clear k
                  try clear k'
                  go_upto_region 19 with fail
                  go_region_held3 (fun w' => w'.cell? ⟨w.heap.size, 0, none⟩ = some (.slice A n c) ∧ w'.cell? ⟨w.heap.size, 1, none⟩ = some (.slice A' n' c') ∧ w'.cell? ⟨w.heap.size, 2, none⟩ = some (.int .i64 o) ∧ w'.cell? ⟨w6.heap.size, 0, none⟩ = some (.int .i64 (zs.length : Nat)) ∧ w'.cell? ⟨b5, 0, none⟩ = some (.slice L zs.length ca) ∧ w'.cell? ⟨W.heap.size, 0, none⟩ = some (.int .i64 ((zs.length : Nat)))) (first | exact KEEP9.out | exact HC19.out _ (grown_more (by repeat (first | exact grown_refl _ _ | exact HGm.out | refine grown_drew ?_ | refine grown_drewN ?_ _)) _) | go_keep) (first
                    | (go_at_call 13; refine (HCA19.out _ (by repeat (first | exact grown_refl _ _ | refine grown_drewN ?_ _ | refine grown_drew ?_))).mono ?_; rintro e wm ⟨LA9, ca9, rfl, _, hga⟩; rw [HCL.out]; have HGm : Hid (W3.grownBy wm none) := Lib.hid (grown_join (by repeat (first | exact grown_refl _ _ | refine grown_drewN ?_ _ | refine grown_drew ?_)) hga (.inr (by simp))); have KEEP9 := Lib.hid (HC19.out _ (grown_put (j := 0) (grown_more HGm.out _) (.inl rfl) (.bool true))); obtain ⟨r0, r1⟩ := cells_one9 (HRR.out.grown HGm.out (by simp)); clear hga))
                  all_goals
                    go_wp2_with fail
                    exact leave_three9 HKD1'.out HKD2'.out HKD3.out HD23.out HD12.out HD13.out HGm.out (HRR.out.grown HGm.out (by simp)) (grown_join (grown_join HGW4.out HG43.out (.inr (by simp))) HGm.out (.inr (by simp))) (by omega) HDW.out (fun W9 e0 => by simp [results, Try.results5, go_sem, e0])
                case stop3 =>
                  rintro D3 cc pre W3 hD3 ⟨kk, hkk, rfl⟩ ⟨rfl, hl, hb, hg⟩ hK3
                  obtain ⟨cl, hcl⟩ : ∃ cl, (colL ⟨s, t, o⟩).length = cl := ⟨_, rfl⟩
                  have HCL := Lib.hid (show (colL ⟨s, t, o⟩).length = cl ∧ 1 ≤ cl from ⟨hcl, by rw [List.length_take] at hl; omega⟩)
                  have HD3L := Lib.hid hD3
                  have HD23 := Lib.hid (show D2 ≠ D3 by have := HD2S.out; have := HTL.out; omega)
                  have HD13 := Lib.hid (show D ≠ D3 by have := HDS.out; have := HTL.out; omega)
                  clear hcl hl hkk
                  refine wpIn_wide.2 ?_
                  have HG3W : Hid (W.grownBy W3 none) := Lib.hid (grown_join (grown_join (grown_join HG2W.out HGk.out (.inr (by simp))) HGl.out (.inr (by simp))) hg (.inr fun z e => by injection e with e; omega))
                  have HG63 : Hid (w6.grownBy W3 none) := Lib.hid (grown_join HG6W.out HG3W.out (.inr (by simp)))
                  have HG43 := Lib.hid (grown_join HG6.out HG63.out (.inr (by simp)))
                  have HB3K := Lib.hid hb
                  have HKD3 := Lib.hid hK3
                  have HD3S := Lib.hid (show D3 < W3.heap.size from (Array.getElem?_eq_some_iff.1 hK3).1)
                  have HKD2' : Hid (W3.heap[D2]? = some (.deferred (some []))) := Lib.hid (((grown_join (grown_more (grown_join HGk.out HGl.out (.inr (by simp))) (some W.heap.size)) hg (.inl rfl)).block D2 HD2S.out (fun e => by injection e with e; exact HNK2.out e)).trans HKD2.out)
                  have HKD1' : Hid (W3.heap[D]? = some (.deferred (some []))) := Lib.hid ((HG3W.out.block D HDS.out (by simp)).trans HKD.out)
                  have hne5 := HX5.out.small
                  have hss := HSS.out
                  have htk := HTK.out
                  have hwl := HLE.out
                  have HC19 := Lib.hid (fun w' (hg' : W3.grownBy w' (some (w.heap.size + 1 + 1))) => cells_last9 ((HB1.out.grown (grown_join HG4.out HG43.out (.inr (by simp))) (by simp)).grown hg' (fun e => by injection e with e; omega)) ((HBN0.out.grown HG3W.out (by simp)).grown hg' (fun e => by injection e with e; omega)) ((HX5.out.grown HG63.out (by simp)).grown hg' (fun e => by injection e with e; omega)) (hb.grown hg' (fun e => by injection e with e; omega)))
                  have HRR := Lib.hid (HBR.out.grown (grown_join HG4.out HG43.out (.inr (by simp))) (by simp))
                  have HCA19 := Lib.hid (fun w' (hg' : W3.grownBy w' none) => ref9Collect_any A A' n c n' c' s t o w' (HF.out w' (grown_join (grown_join HGW4.out HG43.out (.inr (by simp))) hg' (.inr (by simp)))).1 (HF.out w' (grown_join (grown_join HGW4.out HG43.out (.inr (by simp))) hg' (.inr (by simp)))).2.1 hn.1 hn.2)
                  obtain ⟨x0, x1, x2, x3, x4, x5⟩ := HC19.out _ (grown_refl W3 _)
                  have j0 : (((zs.length : Nat) : Int) == ((zs.length : Nat) : Int)) = true := by simp
                  have hz8 := HZ8.out
                  have j1 : (zs.length : Int) < 3 := by have := HL3.out; omega
                  have j2 : (if (cl : Int) < 1 then (cl : Int) else 1) = 1 := if_neg (by have := HCL.out.2; omega)
                  have j3 : IntKind.i64.wrap ((zs.length : Int) + 1) = (zs.length : Int) + 1 := IntWalk.i64_in _ (by omega)
                  have j4 : wrap64 ((zs.length : Int) + 1) = (zs.length : Int) + 1 := IntWalk.wrap64_in _ (by omega)
                  have j5 : (((zs.length : Int) + 1) == ((zs.length : Int) + 1)) = true := by simp
                  have HDW := Lib.hid (show w.heap.size ≤ D ∧ w.heap.size ≤ D2 ∧ w.heap.size ≤ D3 by have := HTN.out; have := HTL.out; omega)
                  clear hb hg hK3
                  try clear HK
                  try clear HLI
                  try clear HLI2
                  try clear HRS
                  try clear HW1
                  try clear HC1
                  try clear HC2
                  try clear HCR
                  try clear HLB
                  try clear HLB2
                  try clear HF
                  try clear HFU
                  try clear HC
                  try clear HCA
                  try clear HCB
                  try clear HB1
                  try clear HB2
                  try clear HBR
                  try clear HG1
                  try clear HG2
                  try clear HG3
                  try clear HG4
                  try clear HB5
                  try clear HB6
                  try clear HL
                  try clear HM
                  try clear HGc
                  try clear HNE
                  try clear HLE
                  try clear HGWc
                  try clear HC5
                  try clear HRA
                  try clear HRB
                  try clear HIN
                  try clear HPL
                  try clear HZL
                  try clear HG56
                  try clear HZS
                  try clear HZ0
                  try clear HNL
                  try clear HNM
                  try clear HX5
                  try clear HX6
                  try clear HG6
                  try clear HXN
                  try clear HG67
                  try clear HG7
                  try clear HGW7
                  try clear HC7
                  try clear HPA
                  try clear HGh
                  try clear HGi
                  try clear HGj
                  try clear HGij
                  try clear HPLN
                  try clear HSEQ
                  try clear HTN
                  try clear HSS
                  try clear HXT
                  try clear HXX
                  try clear HSX
                  try clear HG6j
                  try clear HXN9
                  try clear HG6W
                  try clear HKD
                  try clear HBN0
                  try clear HDS
                  try clear HXK
                  try clear HGW11
                  try clear HG11
                  try clear HGV11
                  try clear HC11
                  try clear HPA2
                  try clear HGh2
                  try clear HGi2
                  try clear HGj2
                  try clear HGij2
                  try clear HPLN2
                  try clear HSEQ2
                  try clear HTK
                  try clear HXX2
                  try clear HSX2
                  try clear HXK9
                  try clear HB2K
                  try clear HL3
                  try clear HG2W
                  try clear HG62
                  try clear HG42
                  try clear HGV2
                  try clear HKD2
                  try clear HD2S
                  try clear HNK2
                  try clear HGk
                  try clear HGl
                  try clear HPLN3
                  try clear HSEQ3
                  try clear HTL
                  try clear HXX3
                  try clear HSX3
                  try clear HXL9
                  try clear HG3W
                  try clear HG63
                  try clear HB3K
                  try clear HD3S
                  try clear HD3L
                  try clear HZ8
                  try clear hne5
                  try clear hss
                  try clear htk
                  try clear hwl
                  try clear hz8
                  try clear hD
                  try clear hD2
                  try clear hD3
                  try clear ho
                  try clear hou
                  try clear h
                  try clear h'
                  try clear k
                  try clear k'
                  go_upto_region 19 with fail
                  go_region_held3 (fun w' => w'.cell? ⟨w.heap.size, 0, none⟩ = some (.slice A n c) ∧ w'.cell? ⟨w.heap.size, 1, none⟩ = some (.slice A' n' c') ∧ w'.cell? ⟨w.heap.size, 2, none⟩ = some (.int .i64 o) ∧ w'.cell? ⟨w6.heap.size, 0, none⟩ = some (.int .i64 (zs.length : Nat)) ∧ w'.cell? ⟨b5, 0, none⟩ = some (.slice L zs.length ca) ∧ w'.cell? ⟨W.heap.size, 0, none⟩ = some (.int .i64 ((zs.length : Int) + 1))) (first | exact KEEP9.out | exact HC19.out _ (grown_more (by repeat (first | exact grown_refl _ _ | exact HGm.out | refine grown_drew ?_ | refine grown_drewN ?_ _)) _) | go_keep) (first
                    | (go_at_call 13; refine (HCA19.out _ (by repeat (first | exact grown_refl _ _ | refine grown_drewN ?_ _ | refine grown_drew ?_))).mono ?_; rintro e wm ⟨LA9, ca9, rfl, _, hga⟩; rw [HCL.out.1]; have HGm : Hid (W3.grownBy wm none) := Lib.hid (grown_join (by repeat (first | exact grown_refl _ _ | refine grown_drewN ?_ _ | refine grown_drew ?_)) hga (.inr (by simp))); have KEEP9 := Lib.hid (HC19.out _ (grown_put (j := 0) (grown_more HGm.out _) (.inl rfl) (.bool true))); obtain ⟨r0, r1⟩ := cells_one9 (HRR.out.grown HGm.out (by simp)); clear hga))
                  all_goals
                    go_wp2_with fail
                    exact leave_three9 HKD1'.out HKD2'.out HKD3.out HD23.out HD12.out HD13.out HGm.out (HRR.out.grown HGm.out (by simp)) (grown_join (grown_join HGW4.out HG43.out (.inr (by simp))) HGm.out (.inr (by simp))) (by omega) HDW.out (fun W9 e0 => by simp [results, Try.results5, go_sem, e0])
              case stop2 =>
                rintro D2 cc pre W2 hD2 ⟨kk, hkk, rfl⟩ ⟨rfl, hl, hb, hg⟩ hK2
                have HL3 : Hid (3 ≤ zs.length) := Lib.hid (by rw [List.length_take] at hl; omega)
                have HB2K : Hid (Box W2 W.heap.size 3 #[.int .i64 ((3 : Nat) : Nat)]) := Lib.hid hb
                clear hb hl hkk
                refine wpIn_wide.2 ?_
                have HG2W : Hid (W.grownBy W2 none) := Lib.hid (grown_join (grown_join HGW11.out HGj2.out (.inr (by simp))) hg (.inr fun z e => by injection e with e; omega))
                have HG62 : Hid (w6.grownBy W2 none) := Lib.hid (grown_join HG6W.out HG2W.out (.inr (by simp)))
                have HG42 := Lib.hid (grown_join HG6.out HG62.out (.inr (by simp)))
                have HGV2 := Lib.hid (grown_join HGW4.out HG42.out (.inr (by simp)))
                have HKD2 := Lib.hid hK2
                have HD2S := Lib.hid (show D2 < W2.heap.size from (Array.getElem?_eq_some_iff.1 hK2).1)
                have HNK2 := Lib.hid (show D2 ≠ W.heap.size by have := HTK.out; omega)
                have HD12 := Lib.hid (show D ≠ D2 by have := HTK.out; have := HDS.out; omega)
                clear hg hK2
                obtain ⟨x0, x1, x2, _, _, _⟩ := HC.out W2 HG42.out
                go_wp2_with fail
                refine (own8_any A A' n c n' c' o W2).mono ?_
                rintro e wk ⟨rfl, hg⟩
                have HGk := Lib.hid hg
                clear hg x0 x1 x2
                go_wp2_with fail
                refine (HRS.out.offsets A n c A' n' c' ⟨s, t, o⟩ wk (HF.out wk (grown_join HGV2.out HGk.out (.inr (by simp)))) ho).mono ?_
                rintro e wl ⟨hgl, gf3, lb3, rfl, hplain, hseq⟩
                have HPLN3 := Lib.hid hplain
                have HSEQ3 := Lib.hid hseq
                have HGl := Lib.hid hgl
                clear hgl hplain hseq
                go_wp2_with fail
                have HTL := Lib.hid (show W.heap.size < W2.heap.size ∧ W2.heap.size ≤ wk.heap.size ∧ wk.heap.size ≤ wl.heap.size from ⟨HB2K.out.small, HGk.out.size, HGl.out.size⟩)
                have HXX3 := Lib.hid (show ∀ x, (fun x => x = W.heap.size) x → x < wk.heap.size ∧ Clear A n A' n' x by
                  have h1 := HTL.out
                  have h2 := HTK.out
                  have h3 := HSS.out
                  rintro x rfl
                  exact ⟨by omega, clear_new (HF.out w (grown_refl _ _)) (by omega)⟩)
                have HSX3 := Lib.hid (HSEQ3.out 8 wl (fun x => x = W.heap.size) (by omega) (grown_refl _ _) HXX3.out)
                have HXL9 := Lib.hid ((HB2K.out.grown HGk.out (by simp)).grown HGl.out (by simp))
                refine (wpIn_wide (n := 9)).1 ?_
                refine range_own (by omega) (gf := gf3) (lb := lb3) rfl HPLN3.out HSX3.out (fun h1 h2 => keepX_t h1 h2) (fun W l o o' h1 h2 h3 h4 => keepX_b W l o o' h1 h2 h3 h4) (fun _ => rfl)
                  (fun pre W3 => pre = [] ∧ Box W3 W.heap.size 3 #[.int .i64 (((3 : Nat) : Nat))] ∧ wl.grownBy W3 (some W.heap.size))
                  (fun c pre W3 => c = .exit 4 ∧ pre.length = 1 ∧ Box W3 W.heap.size 3 #[.int .i64 (4)] ∧ wl.grownBy W3 (some W.heap.size))
                  (fun pre Wa Wb row hs hg hr => ⟨hs.1, hs.2.1.grown hg (fun e => by have h1 := (hr _ e.symm).1; have h2 := HTL.out; omega), grown_join hs.2.2 hg (.inr fun z e => (hr z e).1)⟩)
                  (fun c pre Wa Wb row hs hg hr => ⟨hs.1, hs.2.1, hs.2.2.1.grown hg (fun e => by have h1 := (hr _ e.symm).1; have h2 := HTL.out; omega), grown_join hs.2.2.2 hg (.inr fun z e => (hr z e).1)⟩) ⟨rfl, HXL9.out, grown_more (grown_refl _ _) _⟩
                  (fun x => { tmps := #[.agg #[.slice A n c, .slice A' n' c', .int .i64 o], .agg #[.slice B m d, .slice B' m' d', .int .i64 ou], .pointer (some ⟨w.heap.size, 0, none⟩), .pointer (some ⟨w.heap.size + 1, 0, none⟩), .pointer (some ⟨w.heap.size + 1 + 1, 0, none⟩), .pointer (some ⟨b5, 0, none⟩), .pointer (some ⟨b6, 0, none⟩), .pointer (some ⟨w6.heap.size, 0, none⟩), undef, undef, .pointer (some ⟨W.heap.size, 0, none⟩), .agg #[.slice A n c, .slice A' n' c', .int .i64 o], .bool true, .bool false, .bool false, .agg #[.slice B m d, .slice B' m' d', .int .i64 ou], .bool true, .bool false, .bool false, .bool false, .bool true, .bool false, .bool false, undef, u24, u25, u26, u27, u28, u29, u30, u31, u32, u33, u34, u35, u36, u37, u38, u39, u40, u41, u42, .bool false, .agg #[.slice A n c, .slice A' n' c', .int .i64 o], .agg #[.slice A n c, .slice A' n' c', .int .i64 o], .agg #[.slice B m d, .slice B' m' d', .int .i64 ou], .agg #[.slice B m d, .slice B' m' d', .int .i64 ou], .func (.func gf) #[] lb, undef, undef, undef, undef, undef, undef, undef, undef, undef, undef, undef, undef, undef, undef, undef, undef, undef, undef, undef, undef, undef, undef, undef, undef, .agg #[.slice A n c, .slice A' n' c', .int .i64 o], .agg #[.slice A n c, .slice A' n' c', .int .i64 o], .agg #[.slice B m d, .slice B' m' d', .int .i64 ou], .agg #[.slice B m d, .slice B' m' d', .int .i64 ou], .func (.func gf2) #[] lb2, undef, undef, undef, undef, undef, undef, .agg #[.slice A n c, .slice A' n' c', .int .i64 o], .agg #[.slice A n c, .slice A' n' c', .int .i64 o], .func (.func gf3) #[] lb3, .int .i64 x, undef, undef, undef, undef, undef, undef, undef, undef, undef, undef, undef, undef, undef, undef, undef, undef, undef], defers := [] }) ?assign3 ?body3 ?done3 ?stop3
                case assign3 =>
                  intro l x W3 K hK3
                  dsimp only [enc1]
                  gi_wp2
                  exact hK3
                case body3 =>
                  rintro l2 pre x W3 ⟨rfl, hb, hg⟩ hlt
                  have n0 := hb.get 0
                  have nf := hb.free 0
                  have hz8 := HZ8.out
                  have HBN := Lib.hid (hb.put 0 (.int .i64 (4)))
                  have HGN := Lib.hid (grown_put (j := 0) hg (.inl rfl) (.int .i64 (4)))
                  have v0 : IntKind.i64.wrap (3 + 1) = 4 := IntWalk.i64_in _ (by omega)
                  have v1 : wrap64 (3 + 1) = 4 := IntWalk.wrap64_in _ (by omega)
                  clear hb hg hlt
                  gi_wp2
                  exact ⟨KeepsOthers.setCell _ _ _, rfl, rfl, HBN.out, HGN.out⟩
                case done3 =>
                  rintro D3 ys W3 hD3 hys ⟨hnil, hb, hg⟩ hK3
                  have HCL := Lib.hid (show (colL ⟨s, t, o⟩).length = 0 by rw [← hys, hnil]; rfl)
                  have HD3L := Lib.hid hD3
                  have HD23 := Lib.hid (show D2 ≠ D3 by have := HD2S.out; have := HTL.out; omega)
                  have HD13 := Lib.hid (show D ≠ D3 by have := HDS.out; have := HTL.out; omega)
                  clear hys hnil
                  have HG3W : Hid (W.grownBy W3 none) := Lib.hid (grown_join (grown_join (grown_join HG2W.out HGk.out (.inr (by simp))) HGl.out (.inr (by simp))) hg (.inr fun z e => by injection e with e; omega))
                  have HG63 : Hid (w6.grownBy W3 none) := Lib.hid (grown_join HG6W.out HG3W.out (.inr (by simp)))
                  have HG43 := Lib.hid (grown_join HG6.out HG63.out (.inr (by simp)))
                  have HB3K := Lib.hid hb
                  have HKD3 := Lib.hid hK3
                  have HD3S := Lib.hid (show D3 < W3.heap.size from (Array.getElem?_eq_some_iff.1 hK3).1)
                  have HKD2' : Hid (W3.heap[D2]? = some (.deferred (some []))) := Lib.hid (((grown_join (grown_more (grown_join HGk.out HGl.out (.inr (by simp))) (some W.heap.size)) hg (.inl rfl)).block D2 HD2S.out (fun e => by injection e with e; exact HNK2.out e)).trans HKD2.out)
                  have HKD1' : Hid (W3.heap[D]? = some (.deferred (some []))) := Lib.hid ((HG3W.out.block D HDS.out (by simp)).trans HKD.out)
                  have hne5 := HX5.out.small
                  have hss := HSS.out
                  have htk := HTK.out
                  have hwl := HLE.out
                  have HC19 := Lib.hid (fun w' (hg' : W3.grownBy w' (some (w.heap.size + 1 + 1))) => cells_last9 ((HB1.out.grown (grown_join HG4.out HG43.out (.inr (by simp))) (by simp)).grown hg' (fun e => by injection e with e; omega)) ((HBN0.out.grown HG3W.out (by simp)).grown hg' (fun e => by injection e with e; omega)) ((HX5.out.grown HG63.out (by simp)).grown hg' (fun e => by injection e with e; omega)) (hb.grown hg' (fun e => by injection e with e; omega)))
                  have HRR := Lib.hid (HBR.out.grown (grown_join HG4.out HG43.out (.inr (by simp))) (by simp))
                  have HCA19 := Lib.hid (fun w' (hg' : W3.grownBy w' none) => ref9Collect_any A A' n c n' c' s t o w' (HF.out w' (grown_join (grown_join HGW4.out HG43.out (.inr (by simp))) hg' (.inr (by simp)))).1 (HF.out w' (grown_join (grown_join HGW4.out HG43.out (.inr (by simp))) hg' (.inr (by simp)))).2.1 hn.1 hn.2)
                  obtain ⟨x0, x1, x2, x3, x4, x5⟩ := HC19.out _ (grown_refl W3 _)
                  have j0 : (((zs.length : Nat) : Int) == ((zs.length : Nat) : Int)) = true := by simp
                  have hz8 := HZ8.out
                  have j1 : (if (zs.length : Int) < 3 then (zs.length : Int) else 3) = 3 := if_neg (by have := HL3.out; omega)
                  have j2 : True := trivial
                  have j3 : IntKind.i64.wrap (3) = 3 := IntWalk.i64_in _ (by omega)
                  have j4 : wrap64 (3) = 3 := IntWalk.wrap64_in _ (by omega)
                  have j5 : ((3) == (3)) = true := by simp
                  have HDW := Lib.hid (show w.heap.size ≤ D ∧ w.heap.size ≤ D2 ∧ w.heap.size ≤ D3 by have := HTN.out; have := HTL.out; omega)
                  clear hb hg hK3
                  try clear HK
                  try clear HLI
                  try clear HLI2
                  try clear HRS
                  try clear HW1
                  try clear HC1
                  try clear HC2
                  try clear HCR
                  try clear HLB
                  try clear HLB2
                  try clear HF
                  try clear HFU
                  try clear HC
                  try clear HCA
                  try clear HCB
                  try clear HB1
                  try clear HB2
                  try clear HBR
                  try clear HG1
                  try clear HG2
                  try clear HG3
                  try clear HG4
                  try clear HB5
                  try clear HB6
                  try clear HL
                  try clear HM
                  try clear HGc
                  try clear HNE
                  try clear HLE
                  try clear HGWc
                  try clear HC5
                  try clear HRA
                  try clear HRB
                  try clear HIN
                  try clear HPL
                  try clear HZL
                  try clear HG56
                  try clear HZS
                  try clear HZ0
                  try clear HNL
                  try clear HNM
                  try clear HX5
                  try clear HX6
                  try clear HG6
                  try clear HXN
                  try clear HG67
                  try clear HG7
                  try clear HGW7
                  try clear HC7
                  try clear HPA
                  try clear HGh
                  try clear HGi
                  try clear HGj
                  try clear HGij
                  try clear HPLN
                  try clear HSEQ
                  try clear HTN
                  try clear HSS
                  try clear HXT
                  try clear HXX
                  try clear HSX
                  try clear HG6j
                  try clear HXN9
                  try clear HG6W
                  try clear HKD
                  try clear HBN0
                  try clear HDS
                  try clear HXK
                  try clear HGW11
                  try clear HG11
                  try clear HGV11
                  try clear HC11
                  try clear HPA2
                  try clear HGh2
                  try clear HGi2
                  try clear HGj2
                  try clear HGij2
                  try clear HPLN2
                  try clear HSEQ2
                  try clear HTK
                  try clear HXX2
                  try clear HSX2
                  try clear HXK9
                  try clear HB2K
                  try clear HL3
                  try clear HG2W
                  try clear HG62
                  try clear HG42
                  try clear HGV2
                  try clear HKD2
                  try clear HD2S
                  try clear HNK2
                  try clear HGk
                  try clear HGl
                  try clear HPLN3
                  try clear HSEQ3
                  try clear HTL
                  try clear HXX3
                  try clear HSX3
                  try clear HXL9
                  try clear HG3W
                  try clear HG63
                  try clear HB3K
                  try clear HD3S
                  try clear HD3L
                  try clear HZ8
                  try clear hne5
                  try clear hss
                  try clear htk
                  try clear hwl
                  try clear hz8
                  try clear hD
                  try clear hD2
                  try clear hD3
                  try clear ho
                  try clear hou
                  try clear h
                  try clear h'
                  try clear k
                  try clear k'
                  go_upto_region 19 with fail
                  go_region_held3 (fun w' => w'.cell? ⟨w.heap.size, 0, none⟩ = some (.slice A n c) ∧ w'.cell? ⟨w.heap.size, 1, none⟩ = some (.slice A' n' c') ∧ w'.cell? ⟨w.heap.size, 2, none⟩ = some (.int .i64 o) ∧ w'.cell? ⟨w6.heap.size, 0, none⟩ = some (.int .i64 (zs.length : Nat)) ∧ w'.cell? ⟨b5, 0, none⟩ = some (.slice L zs.length ca) ∧ w'.cell? ⟨W.heap.size, 0, none⟩ = some (.int .i64 (((3 : Nat) : Nat)))) (first | exact KEEP9.out | exact HC19.out _ (grown_more (by repeat (first | exact grown_refl _ _ | exact HGm.out | refine grown_drew ?_ | refine grown_drewN ?_ _)) _) | go_keep) (first
                    | (go_at_call 13; refine (HCA19.out _ (by repeat (first | exact grown_refl _ _ | refine grown_drewN ?_ _ | refine grown_drew ?_))).mono ?_; rintro e wm ⟨LA9, ca9, rfl, _, hga⟩; rw [HCL.out]; have HGm : Hid (W3.grownBy wm none) := Lib.hid (grown_join (by repeat (first | exact grown_refl _ _ | refine grown_drewN ?_ _ | refine grown_drew ?_)) hga (.inr (by simp))); have KEEP9 := Lib.hid (HC19.out _ (grown_put (j := 0) (grown_more HGm.out _) (.inl rfl) (.bool true))); obtain ⟨r0, r1⟩ := cells_one9 (HRR.out.grown HGm.out (by simp)); clear hga))
                  all_goals
                    go_wp2_with fail
                    exact leave_three9 HKD1'.out HKD2'.out HKD3.out HD23.out HD12.out HD13.out HGm.out (HRR.out.grown HGm.out (by simp)) (grown_join (grown_join HGW4.out HG43.out (.inr (by simp))) HGm.out (.inr (by simp))) (by omega) HDW.out (fun W9 e0 => by simp [results, Try.results5, go_sem, e0])
                case stop3 =>
                  rintro D3 cc pre W3 hD3 ⟨kk, hkk, rfl⟩ ⟨rfl, hl, hb, hg⟩ hK3
                  obtain ⟨cl, hcl⟩ : ∃ cl, (colL ⟨s, t, o⟩).length = cl := ⟨_, rfl⟩
                  have HCL := Lib.hid (show (colL ⟨s, t, o⟩).length = cl ∧ 1 ≤ cl from ⟨hcl, by rw [List.length_take] at hl; omega⟩)
                  have HD3L := Lib.hid hD3
                  have HD23 := Lib.hid (show D2 ≠ D3 by have := HD2S.out; have := HTL.out; omega)
                  have HD13 := Lib.hid (show D ≠ D3 by have := HDS.out; have := HTL.out; omega)
                  clear hcl hl hkk
                  refine wpIn_wide.2 ?_
                  have HG3W : Hid (W.grownBy W3 none) := Lib.hid (grown_join (grown_join (grown_join HG2W.out HGk.out (.inr (by simp))) HGl.out (.inr (by simp))) hg (.inr fun z e => by injection e with e; omega))
                  have HG63 : Hid (w6.grownBy W3 none) := Lib.hid (grown_join HG6W.out HG3W.out (.inr (by simp)))
                  have HG43 := Lib.hid (grown_join HG6.out HG63.out (.inr (by simp)))
                  have HB3K := Lib.hid hb
                  have HKD3 := Lib.hid hK3
                  have HD3S := Lib.hid (show D3 < W3.heap.size from (Array.getElem?_eq_some_iff.1 hK3).1)
                  have HKD2' : Hid (W3.heap[D2]? = some (.deferred (some []))) := Lib.hid (((grown_join (grown_more (grown_join HGk.out HGl.out (.inr (by simp))) (some W.heap.size)) hg (.inl rfl)).block D2 HD2S.out (fun e => by injection e with e; exact HNK2.out e)).trans HKD2.out)
                  have HKD1' : Hid (W3.heap[D]? = some (.deferred (some []))) := Lib.hid ((HG3W.out.block D HDS.out (by simp)).trans HKD.out)
                  have hne5 := HX5.out.small
                  have hss := HSS.out
                  have htk := HTK.out
                  have hwl := HLE.out
                  have HC19 := Lib.hid (fun w' (hg' : W3.grownBy w' (some (w.heap.size + 1 + 1))) => cells_last9 ((HB1.out.grown (grown_join HG4.out HG43.out (.inr (by simp))) (by simp)).grown hg' (fun e => by injection e with e; omega)) ((HBN0.out.grown HG3W.out (by simp)).grown hg' (fun e => by injection e with e; omega)) ((HX5.out.grown HG63.out (by simp)).grown hg' (fun e => by injection e with e; omega)) (hb.grown hg' (fun e => by injection e with e; omega)))
                  have HRR := Lib.hid (HBR.out.grown (grown_join HG4.out HG43.out (.inr (by simp))) (by simp))
                  have HCA19 := Lib.hid (fun w' (hg' : W3.grownBy w' none) => ref9Collect_any A A' n c n' c' s t o w' (HF.out w' (grown_join (grown_join HGW4.out HG43.out (.inr (by simp))) hg' (.inr (by simp)))).1 (HF.out w' (grown_join (grown_join HGW4.out HG43.out (.inr (by simp))) hg' (.inr (by simp)))).2.1 hn.1 hn.2)
                  obtain ⟨x0, x1, x2, x3, x4, x5⟩ := HC19.out _ (grown_refl W3 _)
                  have j0 : (((zs.length : Nat) : Int) == ((zs.length : Nat) : Int)) = true := by simp
                  have hz8 := HZ8.out
                  have j1 : (if (zs.length : Int) < 3 then (zs.length : Int) else 3) = 3 := if_neg (by have := HL3.out; omega)
                  have j2 : (if (cl : Int) < 1 then (cl : Int) else 1) = 1 := if_neg (by have := HCL.out.2; omega)
                  have j3 : IntKind.i64.wrap (4) = 4 := IntWalk.i64_in _ (by omega)
                  have j4 : wrap64 (4) = 4 := IntWalk.wrap64_in _ (by omega)
                  have j5 : ((4) == (4)) = true := by simp
                  have HDW := Lib.hid (show w.heap.size ≤ D ∧ w.heap.size ≤ D2 ∧ w.heap.size ≤ D3 by have := HTN.out; have := HTL.out; omega)
                  clear hb hg hK3
                  try clear HK
                  try clear HLI
                  try clear HLI2
                  try clear HRS
                  try clear HW1
                  try clear HC1
                  try clear HC2
                  try clear HCR
                  try clear HLB
                  try clear HLB2
                  try clear HF
                  try clear HFU
                  try clear HC
                  try clear HCA
                  try clear HCB
                  try clear HB1
                  try clear HB2
                  try clear HBR
                  try clear HG1
                  try clear HG2
                  try clear HG3
                  try clear HG4
                  try clear HB5
                  try clear HB6
                  try clear HL
                  try clear HM
                  try clear HGc
                  try clear HNE
                  try clear HLE
                  try clear HGWc
                  try clear HC5
                  try clear HRA
                  try clear HRB
                  try clear HIN
                  try clear HPL
                  try clear HZL
                  try clear HG56
                  try clear HZS
                  try clear HZ0
                  try clear HNL
                  try clear HNM
                  try clear HX5
                  try clear HX6
                  try clear HG6
                  try clear HXN
                  try clear HG67
                  try clear HG7
                  try clear HGW7
                  try clear HC7
                  try clear HPA
                  try clear HGh
                  try clear HGi
                  try clear HGj
                  try clear HGij
                  try clear HPLN
                  try clear HSEQ
                  try clear HTN
                  try clear HSS
                  try clear HXT
                  try clear HXX
                  try clear HSX
                  try clear HG6j
                  try clear HXN9
                  try clear HG6W
                  try clear HKD
                  try clear HBN0
                  try clear HDS
                  try clear HXK
                  try clear HGW11
                  try clear HG11
                  try clear HGV11
                  try clear HC11
                  try clear HPA2
                  try clear HGh2
                  try clear HGi2
                  try clear HGj2
                  try clear HGij2
                  try clear HPLN2
                  try clear HSEQ2
                  try clear HTK
                  try clear HXX2
                  try clear HSX2
                  try clear HXK9
                  try clear HB2K
                  try clear HL3
                  try clear HG2W
                  try clear HG62
                  try clear HG42
                  try clear HGV2
                  try clear HKD2
                  try clear HD2S
                  try clear HNK2
                  try clear HGk
                  try clear HGl
                  try clear HPLN3
                  try clear HSEQ3
                  try clear HTL
                  try clear HXX3
                  try clear HSX3
                  try clear HXL9
                  try clear HG3W
                  try clear HG63
                  try clear HB3K
                  try clear HD3S
                  try clear HD3L
                  try clear HZ8
                  try clear hne5
                  try clear hss
                  try clear htk
                  try clear hwl
                  try clear hz8
                  try clear hD
                  try clear hD2
                  try clear hD3
                  try clear ho
                  try clear hou
                  try clear h
                  try clear h'
                  try clear k
                  try clear k'
                  go_upto_region 19 with fail
                  go_region_held3 (fun w' => w'.cell? ⟨w.heap.size, 0, none⟩ = some (.slice A n c) ∧ w'.cell? ⟨w.heap.size, 1, none⟩ = some (.slice A' n' c') ∧ w'.cell? ⟨w.heap.size, 2, none⟩ = some (.int .i64 o) ∧ w'.cell? ⟨w6.heap.size, 0, none⟩ = some (.int .i64 (zs.length : Nat)) ∧ w'.cell? ⟨b5, 0, none⟩ = some (.slice L zs.length ca) ∧ w'.cell? ⟨W.heap.size, 0, none⟩ = some (.int .i64 (4))) (first | exact KEEP9.out | exact HC19.out _ (grown_more (by repeat (first | exact grown_refl _ _ | exact HGm.out | refine grown_drew ?_ | refine grown_drewN ?_ _)) _) | go_keep) (first
                    | (go_at_call 13; refine (HCA19.out _ (by repeat (first | exact grown_refl _ _ | refine grown_drewN ?_ _ | refine grown_drew ?_))).mono ?_; rintro e wm ⟨LA9, ca9, rfl, _, hga⟩; rw [HCL.out.1]; have HGm : Hid (W3.grownBy wm none) := Lib.hid (grown_join (by repeat (first | exact grown_refl _ _ | refine grown_drewN ?_ _ | refine grown_drew ?_)) hga (.inr (by simp))); have KEEP9 := Lib.hid (HC19.out _ (grown_put (j := 0) (grown_more HGm.out _) (.inl rfl) (.bool true))); obtain ⟨r0, r1⟩ := cells_one9 (HRR.out.grown HGm.out (by simp)); clear hga))
                  all_goals
                    go_wp2_with fail
                    exact leave_three9 HKD1'.out HKD2'.out HKD3.out HD23.out HD12.out HD13.out HGm.out (HRR.out.grown HGm.out (by simp)) (grown_join (grown_join HGW4.out HG43.out (.inr (by simp))) HGm.out (.inr (by simp))) (by omega) HDW.out (fun W9 e0 => by simp [results, Try.results5, go_sem, e0])
            case stop =>
              rintro D c pre W hD ⟨k, hk, rfl⟩ ⟨rfl, pre', x, he, hne⟩ hK
              exact absurd (take_last9 he) hne
          | false =>
            obtain ⟨w6, hw6⟩ : ∃ w6, w6 = (wc.setCell ⟨b5, 0, none⟩ (.slice none 0 0)).setCell ⟨b6, 0, none⟩ (.slice none 0 0) := ⟨_, rfl⟩
            obtain ⟨zs, hzs⟩ : ∃ zs, pairsL ⟨s, t, o⟩ ⟨su, tu, ou⟩ = zs := ⟨_, rfl⟩
            have HZS := Lib.hid hzs
            have HZ8 := Lib.hid (show zs.length ≤ 1048576 by rw [← hzs]; exact pairs_small9 _ _)
            rw [HPL.out, if_neg (by simp)] at hzs
            have hz0 : zs = [] := hzs.symm
            have HZ0 := Lib.hid hz0
            clear hzs
            obtain ⟨u0, v0⟩ := cells_one9 (HB5.out.grown HG56.out (by simp))
            obtain ⟨u1, v1⟩ := cells_one9 (HB6.out.grown HG56.out (by simp))
            have HNL : Hid (NumsF w6 none zs.length 0 (zs.map Prod.fst)) := Lib.hid (by rw [hz0]; exact numsF_nil _)
            have HNM : Hid (NumsF w6 none zs.length 0 (zs.map Prod.snd)) := Lib.hid (by rw [hz0]; exact numsF_nil _)
            have hne1 : b5 ≠ b6 := HNE.out
            have hne2 : ¬ (b5 = b6) := HNE.out
            have HX5 : Hid (Box w6 b5 22 #[.slice none zs.length 0]) := Lib.hid (by rw [hw6, hz0]; exact ((HB5.out.grown HG56.out (by simp)).put 0 _).grown (row := some b6) (grown_put (j := 0) (grown_refl _ (some b6)) (.inl rfl) _) (fun e => hne1 (by injection e)))
            have HX6 : Hid (Box w6 b6 22 #[.slice none zs.length 0]) := Lib.hid (by rw [hw6, hz0]; exact ((HB6.out.grown HG56.out (by simp)).grown (row := some b5) (grown_put (j := 0) (grown_refl _ (some b5)) (.inl rfl) _) (fun e => hne1 (by injection e with e; exact e.symm))).put 0 _)
            have HG6 : Hid (w4.grownBy w6 none) := Lib.hid (by rw [hw6]; exact grown_put (grown_put (grown_join HGc.out HG56.out (.inr (by simp))) (.inr HLE.out.1) _) (.inr HLE.out.2) _)
            have HW6 := Lib.hid hw6
            clear hw6 hz0
            go_upto_region 6 with fail
            rw [← HW6.out]
            clear u0 v0 u1 v1 hne1 hne2
            go_upto_region 7 with fail
            obtain ⟨w7, hw7⟩ : ∃ w7, w7 = w6.alloc (.cells #[.int .i64 0] 3) := ⟨_, rfl⟩
            rw [← hw7]
            have HXN : Hid (Box w7 w6.heap.size 3 #[.int .i64 0]) := Lib.hid (by rw [hw7]; exact Box.fresh _ _ _)
            have HG67 : Hid (w6.grownBy w7 none) := Lib.hid (by rw [hw7]; exact World.grownBy_alloc _ _ _)
            have HG7 := Lib.hid (grown_join HG6.out HG67.out (.inr (by simp)))
            have HGW4 := Lib.hid (grown_join HG1.out HG4.out (.inr (by simp)))
            have HGW7 := Lib.hid (grown_join HGW4.out HG7.out (.inr (by simp)))
            have HC7 := Lib.hid (fun w' (hg' : w7.grownBy w' none) => HC.out w' (grown_join HG7.out hg' (.inr (by simp))))
            have HPA := Lib.hid (fun w' (hg' : w7.grownBy w' none) => HRS.out.pairs A n c A' n' c' ⟨s, t, o⟩ B m d B' m' d' ⟨su, tu, ou⟩ w' (HF.out w' (grown_join HGW7.out hg' (.inr (by simp)))) ho (HFU.out w' (grown_join HGW7.out hg' (.inr (by simp)))) hou)
            rw [HZS.out] at HPA
            clear hw7
            obtain ⟨x0, x1, x2, y0, y1, y2⟩ := HC7.out _ (grown_refl w7 none)
            go_region_held3 (fun w' => w'.cell? ⟨w.heap.size, 0, none⟩ = some (.slice A n c) ∧ w'.cell? ⟨w.heap.size, 1, none⟩ = some (.slice A' n' c') ∧ w'.cell? ⟨w.heap.size, 2, none⟩ = some (.int .i64 o) ∧ w'.cell? ⟨w.heap.size + 1, 0, none⟩ = some (.slice B m d) ∧ w'.cell? ⟨w.heap.size + 1, 1, none⟩ = some (.slice B' m' d') ∧ w'.cell? ⟨w.heap.size + 1, 2, none⟩ = some (.int .i64 ou)) (first | exact HC7.out _ (by repeat (first | exact grown_refl _ _ | exact HGj.out | exact HGi.out | exact HGh.out | refine grown_drew ?_ | refine grown_drewN ?_ _)) | go_keep) (first
              | (go_at_call 23; refine (HPA.out _ HGi.out).mono ?_; rintro e wj ⟨hgj, gf, lb, rfl, hplain, hseq⟩; have HPLN := Lib.hid hplain; have HSEQ := Lib.hid hseq; have HGij := Lib.hid hgj; have HGj := Lib.hid (grown_join HGi.out hgj (.inr (by simp))); clear hgj hplain hseq)
              | (go_at_call 10; (with_reducible refine (own8_any A A' n c n' c' o _).mono ?_); rintro e wh ⟨rfl, hg⟩; have HGh : Hid (w7.grownBy wh none) := Lib.hid (grown_join (by repeat (first | exact grown_refl _ _ | refine grown_drewN ?_ _ | refine grown_drew ?_)) hg (.inr (by simp))); clear hg)
              | (go_at_call 10; (with_reducible refine (own8_any B B' m d m' d' ou _).mono ?_); rintro e wi ⟨rfl, hg⟩; have HGi : Hid (w7.grownBy wi none) := Lib.hid (grown_join HGh.out hg (.inr (by simp))); clear hg))
            clear x0 x1 x2 y0 y1 y2
            go_wp2_with fail
            have HTN := Lib.hid (show w6.heap.size < w7.heap.size ∧ w7.heap.size ≤ wi.heap.size ∧ wi.heap.size ≤ wj.heap.size from ⟨HXN.out.small, HGi.out.size, HGij.out.size⟩)
            have HSS := Lib.hid (show w.heap.size + 1 + 1 < w1.heap.size ∧ w1.heap.size ≤ w4.heap.size ∧ w4.heap.size ≤ w6.heap.size from ⟨HBR.out.small, HG4.out.size, HG6.out.size⟩)
            obtain ⟨X, hX⟩ : ∃ X : Nat → Prop, X = fun x => x = w6.heap.size ∨ x = w.heap.size + 1 + 1 := ⟨_, rfl⟩
            have HXT := Lib.hid (show X w6.heap.size ∧ X (w.heap.size + 1 + 1) by rw [hX]; exact ⟨.inl rfl, .inr rfl⟩)
            have HXX := Lib.hid (show ∀ x, X x → x < wi.heap.size ∧ (Clear A n A' n' x ∧ Clear B m B' m' x) by
              rw [hX]
              have h1 := HTN.out
              have h2 := HSS.out
              rintro x (rfl | rfl)
              · exact ⟨by omega, clear_new (HF.out w (grown_refl _ _)) (by omega), clear_new (HFU.out w (grown_refl _ _)) (by omega)⟩
              · exact ⟨by omega, clear_new (HF.out w (grown_refl _ _)) (by omega), clear_new (HFU.out w (grown_refl _ _)) (by omega)⟩)
            have HSX := Lib.hid (HSEQ.out 8 wj X (by omega) (grown_refl _ _) HXX.out)
            have HG6j := Lib.hid (grown_join HG67.out HGj.out (.inr (by simp)))
            have HXN9 := Lib.hid (HXN.out.grown HGj.out (by simp))
            clear hX
            refine (wpIn_wide (n := 9)).1 ?_
            refine range_own (by omega) (gf := gf) (lb := lb) rfl HPLN.out HSX.out (fun h1 h2 => keepX_t h1 h2) (fun W l o o' h1 h2 h3 h4 => keepX_b W l o o' h1 h2 h3 h4) (fun _ => rfl)
              (fun pre W => pre = zs.take pre.length ∧ pre.length ≤ zs.length ∧ Box W w6.heap.size 3 #[.int .i64 (pre.length : Nat)] ∧ wj.grownBy W (some w6.heap.size))
              (fun c pre W => c = .ret ∧ ∃ (pre' : List (Int × Int)) (x : Int × Int), pre = pre' ++ [x] ∧ ¬ (x = zs.getD pre'.length (0, 0)))
              (fun pre Wa Wb row hs hg hr => ⟨hs.1, hs.2.1, hs.2.2.1.grown hg (fun e => by have h1 := (hr _ e.symm).1; have h2 := HTN.out; omega), grown_join hs.2.2.2 hg (.inr fun z e => (hr z e).1)⟩)
              (fun c pre Wa Wb row hs hg hr => hs) ⟨rfl, Nat.zero_le _, HXN9.out, grown_more (grown_refl _ _) _⟩
              (fun x => { tmps := #[.agg #[.slice A n c, .slice A' n' c', .int .i64 o], .agg #[.slice B m d, .slice B' m' d', .int .i64 ou], .pointer (some ⟨w.heap.size, 0, none⟩), .pointer (some ⟨w.heap.size + 1, 0, none⟩), .pointer (some ⟨w.heap.size + 1 + 1, 0, none⟩), .pointer (some ⟨b5, 0, none⟩), .pointer (some ⟨b6, 0, none⟩), .pointer (some ⟨w6.heap.size, 0, none⟩), .int .i64 x.1, .int .i64 x.2, undef, .agg #[.slice A n c, .slice A' n' c', .int .i64 o], .bool true, .bool false, .bool false, .agg #[.slice B m d, .slice B' m' d', .int .i64 ou], .bool true, .bool false, .bool false, .bool false, .bool true, .bool false, .bool false, undef, u24, u25, u26, u27, u28, u29, u30, u31, u32, u33, u34, u35, u36, u37, u38, u39, u40, u41, u42, .bool true, .agg #[.slice A n c, .slice A' n' c', .int .i64 o], .agg #[.slice A n c, .slice A' n' c', .int .i64 o], .agg #[.slice B m d, .slice B' m' d', .int .i64 ou], .agg #[.slice B m d, .slice B' m' d', .int .i64 ou], .func (.func gf) #[] lb, .int .i64 x.1, .int .i64 x.2, undef, undef, undef, undef, undef, undef, undef, undef, undef, undef, undef, undef, undef, undef, undef, undef, undef, undef, undef, undef, undef, undef, undef, undef, undef, undef, undef, undef, undef, undef, undef, undef, undef, undef, undef, undef, undef, undef, undef, undef, undef, undef, undef, undef, undef, undef, undef, undef, undef, undef, undef, undef, undef, undef], defers := [] }) ?assign ?body ?done ?stop
            case assign =>
              intro l x W K hK
              dsimp only [enc2]
              gi_wp2
              exact hK
            case body =>
              rintro l2 pre x W ⟨hp, hpl, hb, hg⟩ hlt
              exact absurd hlt (by rw [HZ0.out]; simp)
            case done =>
              rintro D ys W hD hys ⟨hp, hpl, hb, hg⟩ hK
              have hys2 : zs = ys := hys.symm
              subst hys2
              have HG6W : Hid (w6.grownBy W none) := Lib.hid (grown_join HG6j.out hg (.inr fun z e => by injection e with e; omega))
              have HKD := Lib.hid hK
              have HBN0 := Lib.hid hb
              have HDS := Lib.hid (show D < W.heap.size from (Array.getElem?_eq_some_iff.1 hK).1)
              clear hp hpl hb hg hK
              go_upto_region 14 with fail
              obtain ⟨w11, hw11⟩ : ∃ w11, w11 = W.alloc (.cells #[.int .i64 0] 3) := ⟨_, rfl⟩
              rw [← hw11]
              have HXK : Hid (Box w11 W.heap.size 3 #[.int .i64 0]) := Lib.hid (by rw [hw11]; exact Box.fresh _ _ _)
              have HGW11 : Hid (W.grownBy w11 none) := Lib.hid (by rw [hw11]; exact World.grownBy_alloc _ _ _)
              have HG11 := Lib.hid (grown_join (grown_join HG6.out HG6W.out (.inr (by simp))) HGW11.out (.inr (by simp)))
              have HGV11 := Lib.hid (grown_join HGW4.out HG11.out (.inr (by simp)))
              have HC11 := Lib.hid (fun w' (hg' : w11.grownBy w' none) => HC.out w' (grown_join HG11.out hg' (.inr (by simp))))
              have HPA2 := Lib.hid (fun w' (hg' : w11.grownBy w' none) => HRS.out.pairs A n c A' n' c' ⟨s, t, o⟩ B m d B' m' d' ⟨su, tu, ou⟩ w' (HF.out w' (grown_join HGV11.out hg' (.inr (by simp)))) ho (HFU.out w' (grown_join HGV11.out hg' (.inr (by simp)))) hou)
              rw [HZS.out] at HPA2
              clear hw11
              obtain ⟨x0, x1, x2, y0, y1, y2⟩ := HC11.out _ (grown_refl w11 none)
              go_region_held3 (fun w' => w'.cell? ⟨w.heap.size, 0, none⟩ = some (.slice A n c) ∧ w'.cell? ⟨w.heap.size, 1, none⟩ = some (.slice A' n' c') ∧ w'.cell? ⟨w.heap.size, 2, none⟩ = some (.int .i64 o) ∧ w'.cell? ⟨w.heap.size + 1, 0, none⟩ = some (.slice B m d) ∧ w'.cell? ⟨w.heap.size + 1, 1, none⟩ = some (.slice B' m' d') ∧ w'.cell? ⟨w.heap.size + 1, 2, none⟩ = some (.int .i64 ou)) (first | exact HC11.out _ (by repeat (first | exact grown_refl _ _ | exact HGj2.out | exact HGi2.out | exact HGh2.out | refine grown_drew ?_ | refine grown_drewN ?_ _)) | go_keep) (first
                | (go_at_call 23; refine (HPA2.out _ HGi2.out).mono ?_; rintro e wj2 ⟨hgj, gf2, lb2, rfl, hplain, hseq⟩; have HPLN2 := Lib.hid hplain; have HSEQ2 := Lib.hid hseq; have HGij2 := Lib.hid hgj; have HGj2 := Lib.hid (grown_join HGi2.out hgj (.inr (by simp))); clear hgj hplain hseq)
                | (go_at_call 10; (with_reducible refine (own8_any A A' n c n' c' o _).mono ?_); rintro e wh2 ⟨rfl, hg⟩; have HGh2 : Hid (w11.grownBy wh2 none) := Lib.hid (grown_join (by repeat (first | exact grown_refl _ _ | refine grown_drewN ?_ _ | refine grown_drew ?_)) hg (.inr (by simp))); clear hg)
                | (go_at_call 10; (with_reducible refine (own8_any B B' m d m' d' ou _).mono ?_); rintro e wi2 ⟨rfl, hg⟩; have HGi2 : Hid (w11.grownBy wi2 none) := Lib.hid (grown_join HGh2.out hg (.inr (by simp))); clear hg))
              clear x0 x1 x2 y0 y1 y2
              go_wp2_with fail
              have HTK := Lib.hid (show W.heap.size < w11.heap.size ∧ w11.heap.size ≤ wi2.heap.size ∧ wi2.heap.size ≤ wj2.heap.size ∧ w6.heap.size ≤ W.heap.size from ⟨HXK.out.small, HGi2.out.size, HGij2.out.size, HG6W.out.size⟩)
              have HXX2 := Lib.hid (show ∀ x, (fun x => x = W.heap.size) x → x < wi2.heap.size ∧ (Clear A n A' n' x ∧ Clear B m B' m' x) by
                have h1 := HTK.out
                have h2 := HSS.out
                rintro x rfl
                exact ⟨by omega, clear_new (HF.out w (grown_refl _ _)) (by omega), clear_new (HFU.out w (grown_refl _ _)) (by omega)⟩)
              have HSX2 := Lib.hid (HSEQ2.out 8 wj2 (fun x => x = W.heap.size) (by omega) (grown_refl _ _) HXX2.out)
              have HXK9 := Lib.hid (HXK.out.grown HGj2.out (by simp))
              refine (wpIn_wide (n := 9)).1 ?_
              refine range_own (by omega) (gf := gf2) (lb := lb2) rfl HPLN2.out HSX2.out (fun h1 h2 => keepX_t h1 h2) (fun W l o o' h1 h2 h3 h4 => keepX_b W l o o' h1 h2 h3 h4) (fun _ => rfl)
                (fun pre W2 => pre.length < 3 ∧ Box W2 W.heap.size 3 #[.int .i64 (pre.length : Nat)] ∧ wj2.grownBy W2 (some W.heap.size))
                (fun c pre W2 => c = .exit 2 ∧ pre.length = 3 ∧ Box W2 W.heap.size 3 #[.int .i64 3] ∧ wj2.grownBy W2 (some W.heap.size))
                (fun pre Wa Wb row hs hg hr => ⟨hs.1, hs.2.1.grown hg (fun e => by have h1 := (hr _ e.symm).1; have h2 := HTK.out; omega), grown_join hs.2.2 hg (.inr fun z e => (hr z e).1)⟩)
                (fun c pre Wa Wb row hs hg hr => ⟨hs.1, hs.2.1, hs.2.2.1.grown hg (fun e => by have h1 := (hr _ e.symm).1; have h2 := HTK.out; omega), grown_join hs.2.2.2 hg (.inr fun z e => (hr z e).1)⟩) ⟨by simp, HXK9.out, grown_more (grown_refl _ _) _⟩
                (fun x => { tmps := #[.agg #[.slice A n c, .slice A' n' c', .int .i64 o], .agg #[.slice B m d, .slice B' m' d', .int .i64 ou], .pointer (some ⟨w.heap.size, 0, none⟩), .pointer (some ⟨w.heap.size + 1, 0, none⟩), .pointer (some ⟨w.heap.size + 1 + 1, 0, none⟩), .pointer (some ⟨b5, 0, none⟩), .pointer (some ⟨b6, 0, none⟩), .pointer (some ⟨w6.heap.size, 0, none⟩), undef, undef, .pointer (some ⟨W.heap.size, 0, none⟩), .agg #[.slice A n c, .slice A' n' c', .int .i64 o], .bool true, .bool false, .bool false, .agg #[.slice B m d, .slice B' m' d', .int .i64 ou], .bool true, .bool false, .bool false, .bool false, .bool true, .bool false, .bool false, undef, u24, u25, u26, u27, u28, u29, u30, u31, u32, u33, u34, u35, u36, u37, u38, u39, u40, u41, u42, .bool true, .agg #[.slice A n c, .slice A' n' c', .int .i64 o], .agg #[.slice A n c, .slice A' n' c', .int .i64 o], .agg #[.slice B m d, .slice B' m' d', .int .i64 ou], .agg #[.slice B m d, .slice B' m' d', .int .i64 ou], .func (.func gf) #[] lb, undef, undef, undef, undef, undef, undef, undef, undef, undef, undef, undef, undef, undef, undef, undef, undef, undef, undef, undef, undef, undef, undef, undef, undef, .agg #[.slice A n c, .slice A' n' c', .int .i64 o], .agg #[.slice A n c, .slice A' n' c', .int .i64 o], .agg #[.slice B m d, .slice B' m' d', .int .i64 ou], .agg #[.slice B m d, .slice B' m' d', .int .i64 ou], .func (.func gf2) #[] lb2, .int .i64 x.1, .int .i64 x.2, undef, undef, undef, undef, undef, undef, undef, undef, undef, undef, undef, undef, undef, undef, undef, undef, undef, undef, undef, undef, undef, undef, undef, undef, undef], defers := [] }) ?assign2 ?body2 ?done2 ?stop2
              case assign2 =>
                intro l x W2 K hK2
                dsimp only [enc2]
                gi_wp2
                exact hK2
              case body2 =>
                rintro l2 pre x W2 ⟨hl, hb, hg⟩ hlt
                obtain ⟨j, hj⟩ : ∃ j, pre.length = j := ⟨_, rfl⟩
                rw [hj] at hl hb
                have HJ := Lib.hid hj
                have n0 := hb.get 0
                have nf := hb.free 0
                have HBN := Lib.hid (hb.put 0 (.int .i64 ((j : Int) + 1)))
                have HGN := Lib.hid (grown_put (j := 0) hg (.inl rfl) (.int .i64 ((j : Int) + 1)))
                obtain ⟨m0, m1, m2⟩ := cells_put9 hb (.int .i64 ((j : Int) + 1))
                have v0 : IntKind.i64.wrap ((j : Int) + 1) = (j : Int) + 1 := IntWalk.i64_in _ (by omega)
                have v1 : wrap64 ((j : Int) + 1) = (j : Int) + 1 := IntWalk.wrap64_in _ (by omega)
                clear hb hg hlt
                by_cases e3 : j = 2
                · subst e3
                  gi_wp2
                  exact ⟨KeepsOthers.setCell _ _ _, rfl, by rw [List.length_append, List.length_singleton, HJ.out], HBN.out, HGN.out⟩
                · have v2 : (((j : Int) + 1) == 3) = false := by simp; omega
                  have v3 : ¬ ((j : Int) + 1 = 3) := by omega
                  gi_wp2
                  exact ⟨KeepsOthers.setCell _ _ _, keepX_put (X := fun x => x = W.heap.size) (keepX_refl _ _) rfl _, by rw [List.length_append, List.length_singleton, HJ.out]; omega, by rw [List.length_append, List.length_singleton, HJ.out]; exact HBN.out, HGN.out⟩
              case done2 =>
                rintro D2 ys W2 hD2 hys ⟨hl, hb, hg⟩ hK2
                have hys2 : zs = ys := hys.symm
                subst hys2
                have HB2K := Lib.hid hb
                have HL3 : Hid (zs.length < 3) := Lib.hid hl
                clear hb hl
                have HG2W : Hid (W.grownBy W2 none) := Lib.hid (grown_join (grown_join HGW11.out HGj2.out (.inr (by simp))) hg (.inr fun z e => by injection e with e; omega))
                have HG62 : Hid (w6.grownBy W2 none) := Lib.hid (grown_join HG6W.out HG2W.out (.inr (by simp)))
                have HG42 := Lib.hid (grown_join HG6.out HG62.out (.inr (by simp)))
                have HGV2 := Lib.hid (grown_join HGW4.out HG42.out (.inr (by simp)))
                have HKD2 := Lib.hid hK2
                have HD2S := Lib.hid (show D2 < W2.heap.size from (Array.getElem?_eq_some_iff.1 hK2).1)
                have HNK2 := Lib.hid (show D2 ≠ W.heap.size by have := HTK.out; omega)
                have HD12 := Lib.hid (show D ≠ D2 by have := HTK.out; have := HDS.out; omega)
                clear hg hK2
                obtain ⟨x0, x1, x2, _, _, _⟩ := HC.out W2 HG42.out
                go_wp2_with fail
                refine (own8_any A A' n c n' c' o W2).mono ?_
                rintro e wk ⟨rfl, hg⟩
                have HGk := Lib.hid hg
                clear hg x0 x1 x2
                go_wp2_with fail
                refine (HRS.out.offsets A n c A' n' c' ⟨s, t, o⟩ wk (HF.out wk (grown_join HGV2.out HGk.out (.inr (by simp)))) ho).mono ?_
                rintro e wl ⟨hgl, gf3, lb3, rfl, hplain, hseq⟩
                have HPLN3 := Lib.hid hplain
                have HSEQ3 := Lib.hid hseq
                have HGl := Lib.hid hgl
                clear hgl hplain hseq
                go_wp2_with fail
                have HTL := Lib.hid (show W.heap.size < W2.heap.size ∧ W2.heap.size ≤ wk.heap.size ∧ wk.heap.size ≤ wl.heap.size from ⟨HB2K.out.small, HGk.out.size, HGl.out.size⟩)
                have HXX3 := Lib.hid (show ∀ x, (fun x => x = W.heap.size) x → x < wk.heap.size ∧ Clear A n A' n' x by
                  have h1 := HTL.out
                  have h2 := HTK.out
                  have h3 := HSS.out
                  rintro x rfl
                  exact ⟨by omega, clear_new (HF.out w (grown_refl _ _)) (by omega)⟩)
                have HSX3 := Lib.hid (HSEQ3.out 8 wl (fun x => x = W.heap.size) (by omega) (grown_refl _ _) HXX3.out)
                have HXL9 := Lib.hid ((HB2K.out.grown HGk.out (by simp)).grown HGl.out (by simp))
                refine (wpIn_wide (n := 9)).1 ?_
                refine range_own (by omega) (gf := gf3) (lb := lb3) rfl HPLN3.out HSX3.out (fun h1 h2 => keepX_t h1 h2) (fun W l o o' h1 h2 h3 h4 => keepX_b W l o o' h1 h2 h3 h4) (fun _ => rfl)
                  (fun pre W3 => pre = [] ∧ Box W3 W.heap.size 3 #[.int .i64 ((zs.length : Nat))] ∧ wl.grownBy W3 (some W.heap.size))
                  (fun c pre W3 => c = .exit 4 ∧ pre.length = 1 ∧ Box W3 W.heap.size 3 #[.int .i64 ((zs.length : Int) + 1)] ∧ wl.grownBy W3 (some W.heap.size))
                  (fun pre Wa Wb row hs hg hr => ⟨hs.1, hs.2.1.grown hg (fun e => by have h1 := (hr _ e.symm).1; have h2 := HTL.out; omega), grown_join hs.2.2 hg (.inr fun z e => (hr z e).1)⟩)
                  (fun c pre Wa Wb row hs hg hr => ⟨hs.1, hs.2.1, hs.2.2.1.grown hg (fun e => by have h1 := (hr _ e.symm).1; have h2 := HTL.out; omega), grown_join hs.2.2.2 hg (.inr fun z e => (hr z e).1)⟩) ⟨rfl, HXL9.out, grown_more (grown_refl _ _) _⟩
                  (fun x => { tmps := #[.agg #[.slice A n c, .slice A' n' c', .int .i64 o], .agg #[.slice B m d, .slice B' m' d', .int .i64 ou], .pointer (some ⟨w.heap.size, 0, none⟩), .pointer (some ⟨w.heap.size + 1, 0, none⟩), .pointer (some ⟨w.heap.size + 1 + 1, 0, none⟩), .pointer (some ⟨b5, 0, none⟩), .pointer (some ⟨b6, 0, none⟩), .pointer (some ⟨w6.heap.size, 0, none⟩), undef, undef, .pointer (some ⟨W.heap.size, 0, none⟩), .agg #[.slice A n c, .slice A' n' c', .int .i64 o], .bool true, .bool false, .bool false, .agg #[.slice B m d, .slice B' m' d', .int .i64 ou], .bool true, .bool false, .bool false, .bool false, .bool true, .bool false, .bool false, undef, u24, u25, u26, u27, u28, u29, u30, u31, u32, u33, u34, u35, u36, u37, u38, u39, u40, u41, u42, .bool true, .agg #[.slice A n c, .slice A' n' c', .int .i64 o], .agg #[.slice A n c, .slice A' n' c', .int .i64 o], .agg #[.slice B m d, .slice B' m' d', .int .i64 ou], .agg #[.slice B m d, .slice B' m' d', .int .i64 ou], .func (.func gf) #[] lb, undef, undef, undef, undef, undef, undef, undef, undef, undef, undef, undef, undef, undef, undef, undef, undef, undef, undef, undef, undef, undef, undef, undef, undef, .agg #[.slice A n c, .slice A' n' c', .int .i64 o], .agg #[.slice A n c, .slice A' n' c', .int .i64 o], .agg #[.slice B m d, .slice B' m' d', .int .i64 ou], .agg #[.slice B m d, .slice B' m' d', .int .i64 ou], .func (.func gf2) #[] lb2, undef, undef, undef, undef, undef, undef, .agg #[.slice A n c, .slice A' n' c', .int .i64 o], .agg #[.slice A n c, .slice A' n' c', .int .i64 o], .func (.func gf3) #[] lb3, .int .i64 x, undef, undef, undef, undef, undef, undef, undef, undef, undef, undef, undef, undef, undef, undef, undef, undef, undef], defers := [] }) ?assign3 ?body3 ?done3 ?stop3
                case assign3 =>
                  intro l x W3 K hK3
                  dsimp only [enc1]
                  gi_wp2
                  exact hK3
                case body3 =>
                  rintro l2 pre x W3 ⟨rfl, hb, hg⟩ hlt
                  have n0 := hb.get 0
                  have nf := hb.free 0
                  have hz8 := HZ8.out
                  have HBN := Lib.hid (hb.put 0 (.int .i64 ((zs.length : Int) + 1)))
                  have HGN := Lib.hid (grown_put (j := 0) hg (.inl rfl) (.int .i64 ((zs.length : Int) + 1)))
                  have v0 : IntKind.i64.wrap ((zs.length : Int) + 1) = (zs.length : Int) + 1 := IntWalk.i64_in _ (by omega)
                  have v1 : wrap64 ((zs.length : Int) + 1) = (zs.length : Int) + 1 := IntWalk.wrap64_in _ (by omega)
                  clear hb hg hlt
                  gi_wp2
                  exact ⟨KeepsOthers.setCell _ _ _, rfl, rfl, HBN.out, HGN.out⟩
                case done3 =>
                  rintro D3 ys W3 hD3 hys ⟨hnil, hb, hg⟩ hK3
                  have HCL := Lib.hid (show (colL ⟨s, t, o⟩).length = 0 by rw [← hys, hnil]; rfl)
                  have HD3L := Lib.hid hD3
                  have HD23 := Lib.hid (show D2 ≠ D3 by have := HD2S.out; have := HTL.out; omega)
                  have HD13 := Lib.hid (show D ≠ D3 by have := HDS.out; have := HTL.out; omega)
                  clear hys hnil
                  have HG3W : Hid (W.grownBy W3 none) := Lib.hid (grown_join (grown_join (grown_join HG2W.out HGk.out (.inr (by simp))) HGl.out (.inr (by simp))) hg (.inr fun z e => by injection e with e; omega))
                  have HG63 : Hid (w6.grownBy W3 none) := Lib.hid (grown_join HG6W.out HG3W.out (.inr (by simp)))
                  have HG43 := Lib.hid (grown_join HG6.out HG63.out (.inr (by simp)))
                  have HB3K := Lib.hid hb
                  have HKD3 := Lib.hid hK3
                  have HD3S := Lib.hid (show D3 < W3.heap.size from (Array.getElem?_eq_some_iff.1 hK3).1)
                  have HKD2' : Hid (W3.heap[D2]? = some (.deferred (some []))) := Lib.hid (((grown_join (grown_more (grown_join HGk.out HGl.out (.inr (by simp))) (some W.heap.size)) hg (.inl rfl)).block D2 HD2S.out (fun e => by injection e with e; exact HNK2.out e)).trans HKD2.out)
                  have HKD1' : Hid (W3.heap[D]? = some (.deferred (some []))) := Lib.hid ((HG3W.out.block D HDS.out (by simp)).trans HKD.out)
                  have hne5 := HX5.out.small
                  have hss := HSS.out
                  have htk := HTK.out
                  have hwl := HLE.out
                  have HC19 := Lib.hid (fun w' (hg' : W3.grownBy w' (some (w.heap.size + 1 + 1))) => cells_last9 ((HB1.out.grown (grown_join HG4.out HG43.out (.inr (by simp))) (by simp)).grown hg' (fun e => by injection e with e; omega)) ((HBN0.out.grown HG3W.out (by simp)).grown hg' (fun e => by injection e with e; omega)) ((HX5.out.grown HG63.out (by simp)).grown hg' (fun e => by injection e with e; omega)) (hb.grown hg' (fun e => by injection e with e; omega)))
                  have HRR := Lib.hid (HBR.out.grown (grown_join HG4.out HG43.out (.inr (by simp))) (by simp))
                  have HCA19 := Lib.hid (fun w' (hg' : W3.grownBy w' none) => ref9Collect_any A A' n c n' c' s t o w' (HF.out w' (grown_join (grown_join HGW4.out HG43.out (.inr (by simp))) hg' (.inr (by simp)))).1 (HF.out w' (grown_join (grown_join HGW4.out HG43.out (.inr (by simp))) hg' (.inr (by simp)))).2.1 hn.1 hn.2)
                  obtain ⟨x0, x1, x2, x3, x4, x5⟩ := HC19.out _ (grown_refl W3 _)
                  have j0 : (((zs.length : Nat) : Int) == ((zs.length : Nat) : Int)) = true := by simp
                  have hz8 := HZ8.out
                  have j1 : (zs.length : Int) < 3 := by have := HL3.out; omega
                  have j2 : True := trivial
                  have j3 : IntKind.i64.wrap ((zs.length : Int)) = (zs.length : Int) := IntWalk.i64_in _ (by omega)
                  have j4 : wrap64 ((zs.length : Int)) = (zs.length : Int) := IntWalk.wrap64_in _ (by omega)
                  have j5 : (((zs.length : Int)) == ((zs.length : Int))) = true := by simp
                  have HDW := Lib.hid (show w.heap.size ≤ D ∧ w.heap.size ≤ D2 ∧ w.heap.size ≤ D3 by have := HTN.out; have := HTL.out; omega)
                  clear hb hg hK3
                  try clear HK
                  try clear HLI
                  try clear HLI2
                  try clear HRS
                  try clear HW1
                  try clear HC1
                  try clear HC2
                  try clear HCR
                  try clear HLB
                  try clear HLB2
                  try clear HF
                  try clear HFU
                  try clear HC
                  try clear HCA
                  try clear HCB
                  try clear HB1
                  try clear HB2
                  try clear HBR
                  try clear HG1
                  try clear HG2
                  try clear HG3
                  try clear HG4
                  try clear HB5
                  try clear HB6
                  try clear HL
                  try clear HM
                  try clear HGc
                  try clear HNE
                  try clear HLE
                  try clear HGWc
                  try clear HC5
                  try clear HRA
                  try clear HRB
                  try clear HIN
                  try clear HPL
                  try clear HZL
                  try clear HG56
                  try clear HZS
                  try clear HZ0
                  try clear HNL
                  try clear HNM
                  try clear HX5
                  try clear HX6
                  try clear HG6
                  try clear HXN
                  try clear HG67
                  try clear HG7
                  try clear HGW7
                  try clear HC7
                  try clear HPA
                  try clear HGh
                  try clear HGi
                  try clear HGj
                  try clear HGij
                  try clear HPLN
                  try clear HSEQ
                  try clear HTN
                  try clear HSS
                  try clear HXT
                  try clear HXX
                  try clear HSX
                  try clear HG6j
                  try clear HXN9
                  try clear HG6W
                  try clear HKD
                  try clear HBN0
                  try clear HDS
                  try clear HXK
                  try clear HGW11
                  try clear HG11
                  try clear HGV11
                  try clear HC11
                  try clear HPA2
                  try clear HGh2
                  try clear HGi2
                  try clear HGj2
                  try clear HGij2
                  try clear HPLN2
                  try clear HSEQ2
                  try clear HTK
                  try clear HXX2
                  try clear HSX2
                  try clear HXK9
                  try clear HB2K
                  try clear HL3
                  try clear HG2W
                  try clear HG62
                  try clear HG42
                  try clear HGV2
                  try clear HKD2
                  try clear HD2S
                  try clear HNK2
                  try clear HGk
                  try clear HGl
                  try clear HPLN3
                  try clear HSEQ3
                  try clear HTL
                  try clear HXX3
                  try clear HSX3
                  try clear HXL9
                  try clear HG3W
                  try clear HG63
                  try clear HB3K
                  try clear HD3S
                  try clear HD3L
                  try clear HZ8
                  try clear hne5
                  try clear hss
                  try clear htk
                  try clear hwl
                  try clear hz8
                  try clear hD
                  try clear hD2
                  try clear hD3
                  try clear ho
                  try clear hou
                  try clear h
                  try clear h'
                  try clear k
                  try clear k'
                  go_upto_region 19 with fail
                  go_region_held3 (fun w' => w'.cell? ⟨w.heap.size, 0, none⟩ = some (.slice A n c) ∧ w'.cell? ⟨w.heap.size, 1, none⟩ = some (.slice A' n' c') ∧ w'.cell? ⟨w.heap.size, 2, none⟩ = some (.int .i64 o) ∧ w'.cell? ⟨w6.heap.size, 0, none⟩ = some (.int .i64 (zs.length : Nat)) ∧ w'.cell? ⟨b5, 0, none⟩ = some (.slice none zs.length 0) ∧ w'.cell? ⟨W.heap.size, 0, none⟩ = some (.int .i64 ((zs.length : Nat)))) (first | exact KEEP9.out | exact HC19.out _ (grown_more (by repeat (first | exact grown_refl _ _ | exact HGm.out | refine grown_drew ?_ | refine grown_drewN ?_ _)) _) | go_keep) (first
                    | (go_at_call 13; refine (HCA19.out _ (by repeat (first | exact grown_refl _ _ | refine grown_drewN ?_ _ | refine grown_drew ?_))).mono ?_; rintro e wm ⟨LA9, ca9, rfl, _, hga⟩; rw [HCL.out]; have HGm : Hid (W3.grownBy wm none) := Lib.hid (grown_join (by repeat (first | exact grown_refl _ _ | refine grown_drewN ?_ _ | refine grown_drew ?_)) hga (.inr (by simp))); have KEEP9 := Lib.hid (HC19.out _ (grown_put (j := 0) (grown_more HGm.out _) (.inl rfl) (.bool true))); obtain ⟨r0, r1⟩ := cells_one9 (HRR.out.grown HGm.out (by simp)); clear hga))
                  all_goals
                    go_wp2_with fail
                    exact leave_three9 HKD1'.out HKD2'.out HKD3.out HD23.out HD12.out HD13.out HGm.out (HRR.out.grown HGm.out (by simp)) (grown_join (grown_join HGW4.out HG43.out (.inr (by simp))) HGm.out (.inr (by simp))) (by omega) HDW.out (fun W9 e0 => by simp [results, Try.results5, go_sem, e0])
                case stop3 =>
                  rintro D3 cc pre W3 hD3 ⟨kk, hkk, rfl⟩ ⟨rfl, hl, hb, hg⟩ hK3
                  obtain ⟨cl, hcl⟩ : ∃ cl, (colL ⟨s, t, o⟩).length = cl := ⟨_, rfl⟩
                  have HCL := Lib.hid (show (colL ⟨s, t, o⟩).length = cl ∧ 1 ≤ cl from ⟨hcl, by rw [List.length_take] at hl; omega⟩)
                  have HD3L := Lib.hid hD3
                  have HD23 := Lib.hid (show D2 ≠ D3 by have := HD2S.out; have := HTL.out; omega)
                  have HD13 := Lib.hid (show D ≠ D3 by have := HDS.out; have := HTL.out; omega)
                  clear hcl hl hkk
                  refine wpIn_wide.2 ?_
                  have HG3W : Hid (W.grownBy W3 none) := Lib.hid (grown_join (grown_join (grown_join HG2W.out HGk.out (.inr (by simp))) HGl.out (.inr (by simp))) hg (.inr fun z e => by injection e with e; omega))
                  have HG63 : Hid (w6.grownBy W3 none) := Lib.hid (grown_join HG6W.out HG3W.out (.inr (by simp)))
                  have HG43 := Lib.hid (grown_join HG6.out HG63.out (.inr (by simp)))
                  have HB3K := Lib.hid hb
                  have HKD3 := Lib.hid hK3
                  have HD3S := Lib.hid (show D3 < W3.heap.size from (Array.getElem?_eq_some_iff.1 hK3).1)
                  have HKD2' : Hid (W3.heap[D2]? = some (.deferred (some []))) := Lib.hid (((grown_join (grown_more (grown_join HGk.out HGl.out (.inr (by simp))) (some W.heap.size)) hg (.inl rfl)).block D2 HD2S.out (fun e => by injection e with e; exact HNK2.out e)).trans HKD2.out)
                  have HKD1' : Hid (W3.heap[D]? = some (.deferred (some []))) := Lib.hid ((HG3W.out.block D HDS.out (by simp)).trans HKD.out)
                  have hne5 := HX5.out.small
                  have hss := HSS.out
                  have htk := HTK.out
                  have hwl := HLE.out
                  have HC19 := Lib.hid (fun w' (hg' : W3.grownBy w' (some (w.heap.size + 1 + 1))) => cells_last9 ((HB1.out.grown (grown_join HG4.out HG43.out (.inr (by simp))) (by simp)).grown hg' (fun e => by injection e with e; omega)) ((HBN0.out.grown HG3W.out (by simp)).grown hg' (fun e => by injection e with e; omega)) ((HX5.out.grown HG63.out (by simp)).grown hg' (fun e => by injection e with e; omega)) (hb.grown hg' (fun e => by injection e with e; omega)))
                  have HRR := Lib.hid (HBR.out.grown (grown_join HG4.out HG43.out (.inr (by simp))) (by simp))
                  have HCA19 := Lib.hid (fun w' (hg' : W3.grownBy w' none) => ref9Collect_any A A' n c n' c' s t o w' (HF.out w' (grown_join (grown_join HGW4.out HG43.out (.inr (by simp))) hg' (.inr (by simp)))).1 (HF.out w' (grown_join (grown_join HGW4.out HG43.out (.inr (by simp))) hg' (.inr (by simp)))).2.1 hn.1 hn.2)
                  obtain ⟨x0, x1, x2, x3, x4, x5⟩ := HC19.out _ (grown_refl W3 _)
                  have j0 : (((zs.length : Nat) : Int) == ((zs.length : Nat) : Int)) = true := by simp
                  have hz8 := HZ8.out
                  have j1 : (zs.length : Int) < 3 := by have := HL3.out; omega
                  have j2 : (if (cl : Int) < 1 then (cl : Int) else 1) = 1 := if_neg (by have := HCL.out.2; omega)
                  have j3 : IntKind.i64.wrap ((zs.length : Int) + 1) = (zs.length : Int) + 1 := IntWalk.i64_in _ (by omega)
                  have j4 : wrap64 ((zs.length : Int) + 1) = (zs.length : Int) + 1 := IntWalk.wrap64_in _ (by omega)
                  have j5 : (((zs.length : Int) + 1) == ((zs.length : Int) + 1)) = true := by simp
                  have HDW := Lib.hid (show w.heap.size ≤ D ∧ w.heap.size ≤ D2 ∧ w.heap.size ≤ D3 by have := HTN.out; have := HTL.out; omega)
                  clear hb hg hK3
                  try clear HK
                  try clear HLI
                  try clear HLI2
                  try clear HRS
                  try clear HW1
                  try clear HC1
                  try clear HC2
                  try clear HCR
                  try clear HLB
                  try clear HLB2
                  try clear HF
                  try clear HFU
                  try clear HC
                  try clear HCA
                  try clear HCB
                  try clear HB1
                  try clear HB2
                  try clear HBR
                  try clear HG1
                  try clear HG2
                  try clear HG3
                  try clear HG4
                  try clear HB5
                  try clear HB6
                  try clear HL
                  try clear HM
                  try clear HGc
                  try clear HNE
                  try clear HLE
                  try clear HGWc
                  try clear HC5
                  try clear HRA
                  try clear HRB
                  try clear HIN
                  try clear HPL
                  try clear HZL
                  try clear HG56
                  try clear HZS
                  try clear HZ0
                  try clear HNL
                  try clear HNM
                  try clear HX5
                  try clear HX6
                  try clear HG6
                  try clear HXN
                  try clear HG67
                  try clear HG7
                  try clear HGW7
                  try clear HC7
                  try clear HPA
                  try clear HGh
                  try clear HGi
                  try clear HGj
                  try clear HGij
                  try clear HPLN
                  try clear HSEQ
                  try clear HTN
                  try clear HSS
                  try clear HXT
                  try clear HXX
                  try clear HSX
                  try clear HG6j
                  try clear HXN9
                  try clear HG6W
                  try clear HKD
                  try clear HBN0
                  try clear HDS
                  try clear HXK
                  try clear HGW11
                  try clear HG11
                  try clear HGV11
                  try clear HC11
                  try clear HPA2
                  try clear HGh2
                  try clear HGi2
                  try clear HGj2
                  try clear HGij2
                  try clear HPLN2
                  try clear HSEQ2
                  try clear HTK
                  try clear HXX2
                  try clear HSX2
                  try clear HXK9
                  try clear HB2K
                  try clear HL3
                  try clear HG2W
                  try clear HG62
                  try clear HG42
                  try clear HGV2
                  try clear HKD2
                  try clear HD2S
                  try clear HNK2
                  try clear HGk
                  try clear HGl
                  try clear HPLN3
                  try clear HSEQ3
                  try clear HTL
                  try clear HXX3
                  try clear HSX3
                  try clear HXL9
                  try clear HG3W
                  try clear HG63
                  try clear HB3K
                  try clear HD3S
                  try clear HD3L
                  try clear HZ8
                  try clear hne5
                  try clear hss
                  try clear htk
                  try clear hwl
                  try clear hz8
                  try clear hD
                  try clear hD2
                  try clear hD3
                  try clear ho
                  try clear hou
                  try clear h
                  try clear h'
                  try clear k
                  try clear k'
                  go_upto_region 19 with fail
                  go_region_held3 (fun w' => w'.cell? ⟨w.heap.size, 0, none⟩ = some (.slice A n c) ∧ w'.cell? ⟨w.heap.size, 1, none⟩ = some (.slice A' n' c') ∧ w'.cell? ⟨w.heap.size, 2, none⟩ = some (.int .i64 o) ∧ w'.cell? ⟨w6.heap.size, 0, none⟩ = some (.int .i64 (zs.length : Nat)) ∧ w'.cell? ⟨b5, 0, none⟩ = some (.slice none zs.length 0) ∧ w'.cell? ⟨W.heap.size, 0, none⟩ = some (.int .i64 ((zs.length : Int) + 1))) (first | exact KEEP9.out | exact HC19.out _ (grown_more (by repeat (first | exact grown_refl _ _ | exact HGm.out | refine grown_drew ?_ | refine grown_drewN ?_ _)) _) | go_keep) (first
                    | (go_at_call 13; refine (HCA19.out _ (by repeat (first | exact grown_refl _ _ | refine grown_drewN ?_ _ | refine grown_drew ?_))).mono ?_; rintro e wm ⟨LA9, ca9, rfl, _, hga⟩; rw [HCL.out.1]; have HGm : Hid (W3.grownBy wm none) := Lib.hid (grown_join (by repeat (first | exact grown_refl _ _ | refine grown_drewN ?_ _ | refine grown_drew ?_)) hga (.inr (by simp))); have KEEP9 := Lib.hid (HC19.out _ (grown_put (j := 0) (grown_more HGm.out _) (.inl rfl) (.bool true))); obtain ⟨r0, r1⟩ := cells_one9 (HRR.out.grown HGm.out (by simp)); clear hga))
                  all_goals
                    go_wp2_with fail
                    exact leave_three9 HKD1'.out HKD2'.out HKD3.out HD23.out HD12.out HD13.out HGm.out (HRR.out.grown HGm.out (by simp)) (grown_join (grown_join HGW4.out HG43.out (.inr (by simp))) HGm.out (.inr (by simp))) (by omega) HDW.out (fun W9 e0 => by simp [results, Try.results5, go_sem, e0])
              case stop2 =>
                rintro D2 cc pre W2 hD2 ⟨kk, hkk, rfl⟩ ⟨rfl, hl, hb, hg⟩ hK2
                have HL3 : Hid (3 ≤ zs.length) := Lib.hid (by rw [List.length_take] at hl; omega)
                have HB2K : Hid (Box W2 W.heap.size 3 #[.int .i64 ((3 : Nat) : Nat)]) := Lib.hid hb
                clear hb hl hkk
                refine wpIn_wide.2 ?_
                have HG2W : Hid (W.grownBy W2 none) := Lib.hid (grown_join (grown_join HGW11.out HGj2.out (.inr (by simp))) hg (.inr fun z e => by injection e with e; omega))
                have HG62 : Hid (w6.grownBy W2 none) := Lib.hid (grown_join HG6W.out HG2W.out (.inr (by simp)))
                have HG42 := Lib.hid (grown_join HG6.out HG62.out (.inr (by simp)))
                have HGV2 := Lib.hid (grown_join HGW4.out HG42.out (.inr (by simp)))
                have HKD2 := Lib.hid hK2
                have HD2S := Lib.hid (show D2 < W2.heap.size from (Array.getElem?_eq_some_iff.1 hK2).1)
                have HNK2 := Lib.hid (show D2 ≠ W.heap.size by have := HTK.out; omega)
                have HD12 := Lib.hid (show D ≠ D2 by have := HTK.out; have := HDS.out; omega)
                clear hg hK2
                obtain ⟨x0, x1, x2, _, _, _⟩ := HC.out W2 HG42.out
                go_wp2_with fail
                refine (own8_any A A' n c n' c' o W2).mono ?_
                rintro e wk ⟨rfl, hg⟩
                have HGk := Lib.hid hg
                clear hg x0 x1 x2
                go_wp2_with fail
                refine (HRS.out.offsets A n c A' n' c' ⟨s, t, o⟩ wk (HF.out wk (grown_join HGV2.out HGk.out (.inr (by simp)))) ho).mono ?_
                rintro e wl ⟨hgl, gf3, lb3, rfl, hplain, hseq⟩
                have HPLN3 := Lib.hid hplain
                have HSEQ3 := Lib.hid hseq
                have HGl := Lib.hid hgl
                clear hgl hplain hseq
                go_wp2_with fail
                have HTL := Lib.hid (show W.heap.size < W2.heap.size ∧ W2.heap.size ≤ wk.heap.size ∧ wk.heap.size ≤ wl.heap.size from ⟨HB2K.out.small, HGk.out.size, HGl.out.size⟩)
                have HXX3 := Lib.hid (show ∀ x, (fun x => x = W.heap.size) x → x < wk.heap.size ∧ Clear A n A' n' x by
                  have h1 := HTL.out
                  have h2 := HTK.out
                  have h3 := HSS.out
                  rintro x rfl
                  exact ⟨by omega, clear_new (HF.out w (grown_refl _ _)) (by omega)⟩)
                have HSX3 := Lib.hid (HSEQ3.out 8 wl (fun x => x = W.heap.size) (by omega) (grown_refl _ _) HXX3.out)
                have HXL9 := Lib.hid ((HB2K.out.grown HGk.out (by simp)).grown HGl.out (by simp))
                refine (wpIn_wide (n := 9)).1 ?_
                refine range_own (by omega) (gf := gf3) (lb := lb3) rfl HPLN3.out HSX3.out (fun h1 h2 => keepX_t h1 h2) (fun W l o o' h1 h2 h3 h4 => keepX_b W l o o' h1 h2 h3 h4) (fun _ => rfl)
                  (fun pre W3 => pre = [] ∧ Box W3 W.heap.size 3 #[.int .i64 (((3 : Nat) : Nat))] ∧ wl.grownBy W3 (some W.heap.size))
                  (fun c pre W3 => c = .exit 4 ∧ pre.length = 1 ∧ Box W3 W.heap.size 3 #[.int .i64 (4)] ∧ wl.grownBy W3 (some W.heap.size))
                  (fun pre Wa Wb row hs hg hr => ⟨hs.1, hs.2.1.grown hg (fun e => by have h1 := (hr _ e.symm).1; have h2 := HTL.out; omega), grown_join hs.2.2 hg (.inr fun z e => (hr z e).1)⟩)
                  (fun c pre Wa Wb row hs hg hr => ⟨hs.1, hs.2.1, hs.2.2.1.grown hg (fun e => by have h1 := (hr _ e.symm).1; have h2 := HTL.out; omega), grown_join hs.2.2.2 hg (.inr fun z e => (hr z e).1)⟩) ⟨rfl, HXL9.out, grown_more (grown_refl _ _) _⟩
                  (fun x => { tmps := #[.agg #[.slice A n c, .slice A' n' c', .int .i64 o], .agg #[.slice B m d, .slice B' m' d', .int .i64 ou], .pointer (some ⟨w.heap.size, 0, none⟩), .pointer (some ⟨w.heap.size + 1, 0, none⟩), .pointer (some ⟨w.heap.size + 1 + 1, 0, none⟩), .pointer (some ⟨b5, 0, none⟩), .pointer (some ⟨b6, 0, none⟩), .pointer (some ⟨w6.heap.size, 0, none⟩), undef, undef, .pointer (some ⟨W.heap.size, 0, none⟩), .agg #[.slice A n c, .slice A' n' c', .int .i64 o], .bool true, .bool false, .bool false, .agg #[.slice B m d, .slice B' m' d', .int .i64 ou], .bool true, .bool false, .bool false, .bool false, .bool true, .bool false, .bool false, undef, u24, u25, u26, u27, u28, u29, u30, u31, u32, u33, u34, u35, u36, u37, u38, u39, u40, u41, u42, .bool true, .agg #[.slice A n c, .slice A' n' c', .int .i64 o], .agg #[.slice A n c, .slice A' n' c', .int .i64 o], .agg #[.slice B m d, .slice B' m' d', .int .i64 ou], .agg #[.slice B m d, .slice B' m' d', .int .i64 ou], .func (.func gf) #[] lb, undef, undef, undef, undef, undef, undef, undef, undef, undef, undef, undef, undef, undef, undef, undef, undef, undef, undef, undef, undef, undef, undef, undef, undef, .agg #[.slice A n c, .slice A' n' c', .int .i64 o], .agg #[.slice A n c, .slice A' n' c', .int .i64 o], .agg #[.slice B m d, .slice B' m' d', .int .i64 ou], .agg #[.slice B m d, .slice B' m' d', .int .i64 ou], .func (.func gf2) #[] lb2, undef, undef, undef, undef, undef, undef, .agg #[.slice A n c, .slice A' n' c', .int .i64 o], .agg #[.slice A n c, .slice A' n' c', .int .i64 o], .func (.func gf3) #[] lb3, .int .i64 x, undef, undef, undef, undef, undef, undef, undef, undef, undef, undef, undef, undef, undef, undef, undef, undef, undef], defers := [] }) ?assign3 ?body3 ?done3 ?stop3
                case assign3 =>
                  intro l x W3 K hK3
                  dsimp only [enc1]
                  gi_wp2
                  exact hK3
                case body3 =>
                  rintro l2 pre x W3 ⟨rfl, hb, hg⟩ hlt
                  have n0 := hb.get 0
                  have nf := hb.free 0
                  have hz8 := HZ8.out
                  have HBN := Lib.hid (hb.put 0 (.int .i64 (4)))
                  have HGN := Lib.hid (grown_put (j := 0) hg (.inl rfl) (.int .i64 (4)))
                  have v0 : IntKind.i64.wrap (3 + 1) = 4 := IntWalk.i64_in _ (by omega)
                  have v1 : wrap64 (3 + 1) = 4 := IntWalk.wrap64_in _ (by omega)
                  clear hb hg hlt
                  gi_wp2
                  exact ⟨KeepsOthers.setCell _ _ _, rfl, rfl, HBN.out, HGN.out⟩
                case done3 =>
                  rintro D3 ys W3 hD3 hys ⟨hnil, hb, hg⟩ hK3
                  have HCL := Lib.hid (show (colL ⟨s, t, o⟩).length = 0 by rw [← hys, hnil]; rfl)
                  have HD3L := Lib.hid hD3
                  have HD23 := Lib.hid (show D2 ≠ D3 by have := HD2S.out; have := HTL.out; omega)
                  have HD13 := Lib.hid (show D ≠ D3 by have := HDS.out; have := HTL.out; omega)
                  clear hys hnil
                  have HG3W : Hid (W.grownBy W3 none) := Lib.hid (grown_join (grown_join (grown_join HG2W.out HGk.out (.inr (by simp))) HGl.out (.inr (by simp))) hg (.inr fun z e => by injection e with e; omega))
                  have HG63 : Hid (w6.grownBy W3 none) := Lib.hid (grown_join HG6W.out HG3W.out (.inr (by simp)))
                  have HG43 := Lib.hid (grown_join HG6.out HG63.out (.inr (by simp)))
                  have HB3K := Lib.hid hb
                  have HKD3 := Lib.hid hK3
                  have HD3S := Lib.hid (show D3 < W3.heap.size from (Array.getElem?_eq_some_iff.1 hK3).1)
                  have HKD2' : Hid (W3.heap[D2]? = some (.deferred (some []))) := Lib.hid (((grown_join (grown_more (grown_join HGk.out HGl.out (.inr (by simp))) (some W.heap.size)) hg (.inl rfl)).block D2 HD2S.out (fun e => by injection e with e; exact HNK2.out e)).trans HKD2.out)
                  have HKD1' : Hid (W3.heap[D]? = some (.deferred (some []))) := Lib.hid ((HG3W.out.block D HDS.out (by simp)).trans HKD.out)
                  have hne5 := HX5.out.small
                  have hss := HSS.out
                  have htk := HTK.out
                  have hwl := HLE.out
                  have HC19 := Lib.hid (fun w' (hg' : W3.grownBy w' (some (w.heap.size + 1 + 1))) => cells_last9 ((HB1.out.grown (grown_join HG4.out HG43.out (.inr (by simp))) (by simp)).grown hg' (fun e => by injection e with e; omega)) ((HBN0.out.grown HG3W.out (by simp)).grown hg' (fun e => by injection e with e; omega)) ((HX5.out.grown HG63.out (by simp)).grown hg' (fun e => by injection e with e; omega)) (hb.grown hg' (fun e => by injection e with e; omega)))
                  have HRR := Lib.hid (HBR.out.grown (grown_join HG4.out HG43.out (.inr (by simp))) (by simp))
                  have HCA19 := Lib.hid (fun w' (hg' : W3.grownBy w' none) => ref9Collect_any A A' n c n' c' s t o w' (HF.out w' (grown_join (grown_join HGW4.out HG43.out (.inr (by simp))) hg' (.inr (by simp)))).1 (HF.out w' (grown_join (grown_join HGW4.out HG43.out (.inr (by simp))) hg' (.inr (by simp)))).2.1 hn.1 hn.2)
                  obtain ⟨x0, x1, x2, x3, x4, x5⟩ := HC19.out _ (grown_refl W3 _)
                  have j0 : (((zs.length : Nat) : Int) == ((zs.length : Nat) : Int)) = true := by simp
                  have hz8 := HZ8.out
                  have j1 : (if (zs.length : Int) < 3 then (zs.length : Int) else 3) = 3 := if_neg (by have := HL3.out; omega)
                  have j2 : True := trivial
                  have j3 : IntKind.i64.wrap (3) = 3 := IntWalk.i64_in _ (by omega)
                  have j4 : wrap64 (3) = 3 := IntWalk.wrap64_in _ (by omega)
                  have j5 : ((3) == (3)) = true := by simp
                  have HDW := Lib.hid (show w.heap.size ≤ D ∧ w.heap.size ≤ D2 ∧ w.heap.size ≤ D3 by have := HTN.out; have := HTL.out; omega)
                  clear hb hg hK3
                  try clear HK
                  try clear HLI
                  try clear HLI2
                  try clear HRS
                  try clear HW1
                  try clear HC1
                  try clear HC2
                  try clear HCR
                  try clear HLB
                  try clear HLB2
                  try clear HF
                  try clear HFU
                  try clear HC
                  try clear HCA
                  try clear HCB
                  try clear HB1
                  try clear HB2
                  try clear HBR
                  try clear HG1
                  try clear HG2
                  try clear HG3
                  try clear HG4
                  try clear HB5
                  try clear HB6
                  try clear HL
                  try clear HM
                  try clear HGc
                  try clear HNE
                  try clear HLE
                  try clear HGWc
                  try clear HC5
                  try clear HRA
                  try clear HRB
                  try clear HIN
                  try clear HPL
                  try clear HZL
                  try clear HG56
                  try clear HZS
                  try clear HZ0
                  try clear HNL
                  try clear HNM
                  try clear HX5
                  try clear HX6
                  try clear HG6
                  try clear HXN
                  try clear HG67
                  try clear HG7
                  try clear HGW7
                  try clear HC7
                  try clear HPA
                  try clear HGh
                  try clear HGi
                  try clear HGj
                  try clear HGij
                  try clear HPLN
                  try clear HSEQ
                  try clear HTN
                  try clear HSS
                  try clear HXT
                  try clear HXX
                  try clear HSX
                  try clear HG6j
                  try clear HXN9
                  try clear HG6W
                  try clear HKD
                  try clear HBN0
                  try clear HDS
                  try clear HXK
                  try clear HGW11
                  try clear HG11
                  try clear HGV11
                  try clear HC11
                  try clear HPA2
                  try clear HGh2
                  try clear HGi2
                  try clear HGj2
                  try clear HGij2
                  try clear HPLN2
                  try clear HSEQ2
                  try clear HTK
                  try clear HXX2
                  try clear HSX2
                  try clear HXK9
                  try clear HB2K
                  try clear HL3
                  try clear HG2W
                  try clear HG62
                  try clear HG42
                  try clear HGV2
                  try clear HKD2
                  try clear HD2S
                  try clear HNK2
                  try clear HGk
                  try clear HGl
                  try clear HPLN3
                  try clear HSEQ3
                  try clear HTL
                  try clear HXX3
                  try clear HSX3
                  try clear HXL9
                  try clear HG3W
                  try clear HG63
                  try clear HB3K
                  try clear HD3S
                  try clear HD3L
                  try clear HZ8
                  try clear hne5
                  try clear hss
                  try clear htk
                  try clear hwl
                  try clear hz8
                  try clear hD
                  try clear hD2
                  try clear hD3
                  try clear ho
                  try clear hou
                  try clear h
                  try clear h'
                  try clear k
                  try clear k'
                  go_upto_region 19 with fail
                  go_region_held3 (fun w' => w'.cell? ⟨w.heap.size, 0, none⟩ = some (.slice A n c) ∧ w'.cell? ⟨w.heap.size, 1, none⟩ = some (.slice A' n' c') ∧ w'.cell? ⟨w.heap.size, 2, none⟩ = some (.int .i64 o) ∧ w'.cell? ⟨w6.heap.size, 0, none⟩ = some (.int .i64 (zs.length : Nat)) ∧ w'.cell? ⟨b5, 0, none⟩ = some (.slice none zs.length 0) ∧ w'.cell? ⟨W.heap.size, 0, none⟩ = some (.int .i64 (((3 : Nat) : Nat)))) (first | exact KEEP9.out | exact HC19.out _ (grown_more (by repeat (first | exact grown_refl _ _ | exact HGm.out | refine grown_drew ?_ | refine grown_drewN ?_ _)) _) | go_keep) (first
                    | (go_at_call 13; refine (HCA19.out _ (by repeat (first | exact grown_refl _ _ | refine grown_drewN ?_ _ | refine grown_drew ?_))).mono ?_; rintro e wm ⟨LA9, ca9, rfl, _, hga⟩; rw [HCL.out]; have HGm : Hid (W3.grownBy wm none) := Lib.hid (grown_join (by repeat (first | exact grown_refl _ _ | refine grown_drewN ?_ _ | refine grown_drew ?_)) hga (.inr (by simp))); have KEEP9 := Lib.hid (HC19.out _ (grown_put (j := 0) (grown_more HGm.out _) (.inl rfl) (.bool true))); obtain ⟨r0, r1⟩ := cells_one9 (HRR.out.grown HGm.out (by simp)); clear hga))
                  all_goals
                    go_wp2_with fail
                    exact leave_three9 HKD1'.out HKD2'.out HKD3.out HD23.out HD12.out HD13.out HGm.out (HRR.out.grown HGm.out (by simp)) (grown_join (grown_join HGW4.out HG43.out (.inr (by simp))) HGm.out (.inr (by simp))) (by omega) HDW.out (fun W9 e0 => by simp [results, Try.results5, go_sem, e0])
                case stop3 =>
                  rintro D3 cc pre W3 hD3 ⟨kk, hkk, rfl⟩ ⟨rfl, hl, hb, hg⟩ hK3
                  obtain ⟨cl, hcl⟩ : ∃ cl, (colL ⟨s, t, o⟩).length = cl := ⟨_, rfl⟩
                  have HCL := Lib.hid (show (colL ⟨s, t, o⟩).length = cl ∧ 1 ≤ cl from ⟨hcl, by rw [List.length_take] at hl; omega⟩)
                  have HD3L := Lib.hid hD3
                  have HD23 := Lib.hid (show D2 ≠ D3 by have := HD2S.out; have := HTL.out; omega)
                  have HD13 := Lib.hid (show D ≠ D3 by have := HDS.out; have := HTL.out; omega)
                  clear hcl hl hkk
                  refine wpIn_wide.2 ?_
                  have HG3W : Hid (W.grownBy W3 none) := Lib.hid (grown_join (grown_join (grown_join HG2W.out HGk.out (.inr (by simp))) HGl.out (.inr (by simp))) hg (.inr fun z e => by injection e with e; omega))
                  have HG63 : Hid (w6.grownBy W3 none) := Lib.hid (grown_join HG6W.out HG3W.out (.inr (by simp)))
                  have HG43 := Lib.hid (grown_join HG6.out HG63.out (.inr (by simp)))
                  have HB3K := Lib.hid hb
                  have HKD3 := Lib.hid hK3
                  have HD3S := Lib.hid (show D3 < W3.heap.size from (Array.getElem?_eq_some_iff.1 hK3).1)
                  have HKD2' : Hid (W3.heap[D2]? = some (.deferred (some []))) := Lib.hid (((grown_join (grown_more (grown_join HGk.out HGl.out (.inr (by simp))) (some W.heap.size)) hg (.inl rfl)).block D2 HD2S.out (fun e => by injection e with e; exact HNK2.out e)).trans HKD2.out)
                  have HKD1' : Hid (W3.heap[D]? = some (.deferred (some []))) := Lib.hid ((HG3W.out.block D HDS.out (by simp)).trans HKD.out)
                  have hne5 := HX5.out.small
                  have hss := HSS.out
                  have htk := HTK.out
                  have hwl := HLE.out
                  have HC19 := Lib.hid (fun w' (hg' : W3.grownBy w' (some (w.heap.size + 1 + 1))) => cells_last9 ((HB1.out.grown (grown_join HG4.out HG43.out (.inr (by simp))) (by simp)).grown hg' (fun e => by injection e with e; omega)) ((HBN0.out.grown HG3W.out (by simp)).grown hg' (fun e => by injection e with e; omega)) ((HX5.out.grown HG63.out (by simp)).grown hg' (fun e => by injection e with e; omega)) (hb.grown hg' (fun e => by injection e with e; omega)))
                  have HRR := Lib.hid (HBR.out.grown (grown_join HG4.out HG43.out (.inr (by simp))) (by simp))
                  have HCA19 := Lib.hid (fun w' (hg' : W3.grownBy w' none) => ref9Collect_any A A' n c n' c' s t o w' (HF.out w' (grown_join (grown_join HGW4.out HG43.out (.inr (by simp))) hg' (.inr (by simp)))).1 (HF.out w' (grown_join (grown_join HGW4.out HG43.out (.inr (by simp))) hg' (.inr (by simp)))).2.1 hn.1 hn.2)
                  obtain ⟨x0, x1, x2, x3, x4, x5⟩ := HC19.out _ (grown_refl W3 _)
                  have j0 : (((zs.length : Nat) : Int) == ((zs.length : Nat) : Int)) = true := by simp
                  have hz8 := HZ8.out
                  have j1 : (if (zs.length : Int) < 3 then (zs.length : Int) else 3) = 3 := if_neg (by have := HL3.out; omega)
                  have j2 : (if (cl : Int) < 1 then (cl : Int) else 1) = 1 := if_neg (by have := HCL.out.2; omega)
                  have j3 : IntKind.i64.wrap (4) = 4 := IntWalk.i64_in _ (by omega)
                  have j4 : wrap64 (4) = 4 := IntWalk.wrap64_in _ (by omega)
                  have j5 : ((4) == (4)) = true := by simp
                  have HDW := Lib.hid (show w.heap.size ≤ D ∧ w.heap.size ≤ D2 ∧ w.heap.size ≤ D3 by have := HTN.out; have := HTL.out; omega)
                  clear hb hg hK3
                  try clear HK
                  try clear HLI
                  try clear HLI2
                  try clear HRS
                  try clear HW1
                  try clear HC1
                  try clear HC2
                  try clear HCR
                  try clear HLB
                  try clear HLB2
                  try clear HF
                  try clear HFU
                  try clear HC
                  try clear HCA
                  try clear HCB
                  try clear HB1
                  try clear HB2
                  try clear HBR
                  try clear HG1
                  try clear HG2
                  try clear HG3
                  try clear HG4
                  try clear HB5
                  try clear HB6
                  try clear HL
                  try clear HM
                  try clear HGc
                  try clear HNE
                  try clear HLE
                  try clear HGWc
                  try clear HC5
                  try clear HRA
                  try clear HRB
                  try clear HIN
                  try clear HPL
                  try clear HZL
                  try clear HG56
                  try clear HZS
                  try clear HZ0
                  try clear HNL
                  try clear HNM
                  try clear HX5
                  try clear HX6
                  try clear HG6
                  try clear HXN
                  try clear HG67
                  try clear HG7
                  try clear HGW7
                  try clear HC7
                  try clear HPA
                  try clear HGh
                  try clear HGi
                  try clear HGj
                  try clear HGij
                  try clear HPLN
                  try clear HSEQ
                  try clear HTN
                  try clear HSS
                  try clear HXT
                  try clear HXX
                  try clear HSX
                  try clear HG6j
                  try clear HXN9
                  try clear HG6W
                  try clear HKD
                  try clear HBN0
                  try clear HDS
                  try clear HXK
                  try clear HGW11
                  try clear HG11
                  try clear HGV11
                  try clear HC11
                  try clear HPA2
                  try clear HGh2
                  try clear HGi2
                  try clear HGj2
                  try clear HGij2
                  try clear HPLN2
                  try clear HSEQ2
                  try clear HTK
                  try clear HXX2
                  try clear HSX2
                  try clear HXK9
                  try clear HB2K
                  try clear HL3
                  try clear HG2W
                  try clear HG62
                  try clear HG42
                  try clear HGV2
                  try clear HKD2
                  try clear HD2S
                  try clear HNK2
                  try clear HGk
                  try clear HGl
                  try clear HPLN3
                  try clear HSEQ3
                  try clear HTL
                  try clear HXX3
                  try clear HSX3
                  try clear HXL9
                  try clear HG3W
                  try clear HG63
                  try clear HB3K
                  try clear HD3S
                  try clear HD3L
                  try clear HZ8
                  try clear hne5
                  try clear hss
                  try clear htk
                  try clear hwl
                  try clear hz8
                  try clear hD
                  try clear hD2
                  try clear hD3
                  try clear ho
                  try clear hou
                  try clear h
                  try clear h'
                  try clear k
                  try clear k'
                  go_upto_region 19 with fail
                  go_region_held3 (fun w' => w'.cell? ⟨w.heap.size, 0, none⟩ = some (.slice A n c) ∧ w'.cell? ⟨w.heap.size, 1, none⟩ = some (.slice A' n' c') ∧ w'.cell? ⟨w.heap.size, 2, none⟩ = some (.int .i64 o) ∧ w'.cell? ⟨w6.heap.size, 0, none⟩ = some (.int .i64 (zs.length : Nat)) ∧ w'.cell? ⟨b5, 0, none⟩ = some (.slice none zs.length 0) ∧ w'.cell? ⟨W.heap.size, 0, none⟩ = some (.int .i64 (4))) (first | exact KEEP9.out | exact HC19.out _ (grown_more (by repeat (first | exact grown_refl _ _ | exact HGm.out | refine grown_drew ?_ | refine grown_drewN ?_ _)) _) | go_keep) (first
                    | (go_at_call 13; refine (HCA19.out _ (by repeat (first | exact grown_refl _ _ | refine grown_drewN ?_ _ | refine grown_drew ?_))).mono ?_; rintro e wm ⟨LA9, ca9, rfl, _, hga⟩; rw [HCL.out.1]; have HGm : Hid (W3.grownBy wm none) := Lib.hid (grown_join (by repeat (first | exact grown_refl _ _ | refine grown_drewN ?_ _ | refine grown_drew ?_)) hga (.inr (by simp))); have KEEP9 := Lib.hid (HC19.out _ (grown_put (j := 0) (grown_more HGm.out _) (.inl rfl) (.bool true))); obtain ⟨r0, r1⟩ := cells_one9 (HRR.out.grown HGm.out (by simp)); clear hga))
                  all_goals
                    go_wp2_with fail
                    exact leave_three9 HKD1'.out HKD2'.out HKD3.out HD23.out HD12.out HD13.out HGm.out (HRR.out.grown HGm.out (by simp)) (grown_join (grown_join HGW4.out HG43.out (.inr (by simp))) HGm.out (.inr (by simp))) (by omega) HDW.out (fun W9 e0 => by simp [results, Try.results5, go_sem, e0])
            case stop =>
              rintro D c pre W hD ⟨k, hk, rfl⟩ ⟨rfl, pre', x, he, hne⟩ hK
              exact absurd (take_last9 he) hne
end Go.Proofs.Ytdjenakmdjiknaa
end
