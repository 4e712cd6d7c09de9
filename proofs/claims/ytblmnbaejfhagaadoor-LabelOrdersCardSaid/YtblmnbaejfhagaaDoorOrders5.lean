/-
  Layer 5: the walk of LabelOrders.
-/
import Derived.Test.YtblmnbaejfhagaaDoorBack5
namespace Go.Proofs.YtblmnbaejfhagaaDoor
open Go.ChangeShapes Go.WideShapes Go.ChangeAt Go.RowKit
set_option linter.unusedVariables false

def labA (a : Lab) : Array Value := #[.int .u8 a.k, .int .i64 a.n, .string a.s]
/-- three boxes of labels, made since w0. -/
def Three (w0 : World) (e : TypeId) (a b c : Lab) (v7 v8 v9 : Value) (wc : World) : Prop := ∃ i j k, v7 = .pointer (some ⟨i, 0, none⟩) ∧ v8 = .pointer (some ⟨j, 0, none⟩) ∧ v9 = .pointer (some ⟨k, 0, none⟩) ∧ Box wc i e (labA a) ∧ Box wc j e (labA b) ∧ Box wc k e (labA c) ∧ w0.grownBy wc none
theorem own_three {w : World} {e : TypeId} {a b c : Lab} : OwnL (w.alloc (.cells #[.int .u8 a.k, .int .i64 a.n, .string a.s, .int .u8 b.k, .int .i64 b.n, .string b.s, .int .u8 c.k, .int .i64 c.n, .string c.s] e)) w.heap.size e (some ⟨w.heap.size, 0, none⟩) 3 3 [a, b, c] :=
  ⟨rfl, World.ownsRow_lit w #[.int .u8 a.k, .int .i64 a.n, .string a.s, .int .u8 b.k, .int .i64 b.n, .string b.s, .int .u8 c.k, .int .i64 c.n, .string c.s] _ (Nat.le_refl _) (by unfold maxLen; omega) rfl⟩
theorem heap3 (W : World) (o0 o1 o2 : Obj) : ∃ w', w' = (((W.alloc o0).alloc o1).alloc o2).drew ∧ w'.heap[W.heap.size]? = some o0 ∧ w'.heap[W.heap.size + 1]? = some o1 ∧ w'.heap[W.heap.size + 1 + 1]? = some o2 ∧ W.grownBy w' none := by
  have h0 : (W.alloc o0).heap[W.heap.size]? = some o0 := heap_alloc_new W o0
  have h1 := heap_alloc_new (W.alloc o0) o1
  have h2 := heap_alloc_new ((W.alloc o0).alloc o1) o2
  rw [show (W.alloc o0).heap.size = W.heap.size + 1 by simp] at h1
  rw [show ((W.alloc o0).alloc o1).heap.size = W.heap.size + 1 + 1 by simp] at h2
  refine ⟨_, rfl, ?_, ?_, h2, grown_drewN (grown_alloc (grown_alloc (World.grownBy_alloc W o0 none) _) _) 1⟩
  · exact (Below.heap_alloc _ o2 _ (by simp; omega)).trans ((Below.heap_alloc _ o1 _ (by simp)).trans h0)
  · exact (Below.heap_alloc _ o2 _ (by simp)).trans h1
theorem three_mk {w0 w' : World} {e : TypeId} {a b c : Lab} {i j k : Nat} (hg : w0.grownBy w' none) (h1 : w'.heap[i]? = some (.cells #[.int .u8 a.k, .int .i64 a.n, .string a.s] e (0, 0))) (h2 : w'.heap[j]? = some (.cells #[.int .u8 b.k, .int .i64 b.n, .string b.s] e (0, 0))) (h3 : w'.heap[k]? = some (.cells #[.int .u8 c.k, .int .i64 c.n, .string c.s] e (0, 0))) : Three w0 e a b c (.pointer (some ⟨i, 0, none⟩)) (.pointer (some ⟨j, 0, none⟩)) (.pointer (some ⟨k, 0, none⟩)) w' := ⟨i, j, k, rfl, rfl, rfl, h1, h2, h3, hg⟩
theorem nine_box {w : World} {e e2 e3 : TypeId} {i j k : Nat} {a b c : Lab} (h1 : Box w i e (labA a)) (h2 : Box w j e2 (labA b)) (h3 : Box w k e3 (labA c)) :
    w.cell? ⟨i, 0, none⟩ = some (.int .u8 a.k) ∧ w.cell? ⟨i, 1, none⟩ = some (.int .i64 a.n) ∧ w.cell? ⟨i, 2, none⟩ = some (.string a.s) ∧ w.cell? ⟨j, 0, none⟩ = some (.int .u8 b.k) ∧ w.cell? ⟨j, 1, none⟩ = some (.int .i64 b.n) ∧ w.cell? ⟨j, 2, none⟩ = some (.string b.s) ∧ w.cell? ⟨k, 0, none⟩ = some (.int .u8 c.k) ∧ w.cell? ⟨k, 1, none⟩ = some (.int .i64 c.n) ∧ w.cell? ⟨k, 2, none⟩ = some (.string c.s) :=
  ⟨(cells3 h1).1, (cells3 h1).2.1, (cells3 h1).2.2, (cells3 h2).1, (cells3 h2).2.1, (cells3 h2).2.2, (cells3 h3).1, (cells3 h3).2.1, (cells3 h3).2.2⟩
/-- nine cells in three blocks. -/
theorem nine_al {w1 : World} {p1 p2 p3 p4 p5 p6 p7 p8 p9 : Addr} {v1 v2 v3 v4 v5 v6 v7 v8 v9 : Value} {o : Obj} (h : w1.cell? p1 = some v1 ∧ w1.cell? p2 = some v2 ∧ w1.cell? p3 = some v3 ∧ w1.cell? p4 = some v4 ∧ w1.cell? p5 = some v5 ∧ w1.cell? p6 = some v6 ∧ w1.cell? p7 = some v7 ∧ w1.cell? p8 = some v8 ∧ w1.cell? p9 = some v9) :
    (w1.alloc o).cell? p1 = some v1 ∧ (w1.alloc o).cell? p2 = some v2 ∧ (w1.alloc o).cell? p3 = some v3 ∧ (w1.alloc o).cell? p4 = some v4 ∧ (w1.alloc o).cell? p5 = some v5 ∧ (w1.alloc o).cell? p6 = some v6 ∧ (w1.alloc o).cell? p7 = some v7 ∧ (w1.alloc o).cell? p8 = some v8 ∧ (w1.alloc o).cell? p9 = some v9 :=
  have k : ∀ {p : Addr} {v : Value}, w1.cell? p = some v → (w1.alloc o).cell? p = some v := fun h => (World.cell?_of_block (Below.heap_alloc w1 o _ (World.block_lt_of_cell? w1 _ h))).trans h
  ⟨k h.1, k h.2.1, k h.2.2.1, k h.2.2.2.1, k h.2.2.2.2.1, k h.2.2.2.2.2.1, k h.2.2.2.2.2.2.1, k h.2.2.2.2.2.2.2.1, k h.2.2.2.2.2.2.2.2⟩
theorem nine_st {w1 : World} {b1 b2 b3 o1 o2 o3 o4 o5 o6 o7 o8 o9 : Nat} {v1 v2 v3 v4 v5 v6 v7 v8 v9 u : Value} {q : Addr} (h : w1.cell? ⟨b1, o1, none⟩ = some v1 ∧ w1.cell? ⟨b1, o2, none⟩ = some v2 ∧ w1.cell? ⟨b1, o3, none⟩ = some v3 ∧ w1.cell? ⟨b2, o4, none⟩ = some v4 ∧ w1.cell? ⟨b2, o5, none⟩ = some v5 ∧ w1.cell? ⟨b2, o6, none⟩ = some v6 ∧ w1.cell? ⟨b3, o7, none⟩ = some v7 ∧ w1.cell? ⟨b3, o8, none⟩ = some v8 ∧ w1.cell? ⟨b3, o9, none⟩ = some v9) (hq : q.block ≠ b1 ∧ q.block ≠ b2 ∧ q.block ≠ b3) :
    (w1.setCell q u).cell? ⟨b1, o1, none⟩ = some v1 ∧ (w1.setCell q u).cell? ⟨b1, o2, none⟩ = some v2 ∧ (w1.setCell q u).cell? ⟨b1, o3, none⟩ = some v3 ∧ (w1.setCell q u).cell? ⟨b2, o4, none⟩ = some v4 ∧ (w1.setCell q u).cell? ⟨b2, o5, none⟩ = some v5 ∧ (w1.setCell q u).cell? ⟨b2, o6, none⟩ = some v6 ∧ (w1.setCell q u).cell? ⟨b3, o7, none⟩ = some v7 ∧ (w1.setCell q u).cell? ⟨b3, o8, none⟩ = some v8 ∧ (w1.setCell q u).cell? ⟨b3, o9, none⟩ = some v9 :=
  have k : ∀ {p : Addr} {v : Value}, q.block ≠ p.block → w1.cell? p = some v → (w1.setCell q u).cell? p = some v := fun hne h => by rw [World.cell?_setCell_other _ _ _ _ (fun e => hne (by rw [e]))]; exact h
  ⟨k hq.1 h.1, k hq.1 h.2.1, k hq.1 h.2.2.1, k hq.2.1 h.2.2.2.1, k hq.2.1 h.2.2.2.2.1, k hq.2.1 h.2.2.2.2.2.1, k hq.2.2 h.2.2.2.2.2.2.1, k hq.2.2 h.2.2.2.2.2.2.2.1, k hq.2.2 h.2.2.2.2.2.2.2.2⟩
set_option maxRecDepth 100000 in
set_option maxHeartbeats 4000000 in
theorem orders5_any (hI : IntSays) (hT : TextSays) (hU : TupleSays) (hR : ReadSays) (hS : ShowSays) (hP : PartsSays) (hC : CompareSays) (ak an bk bn ck cn : Int) (as' bs cs : ByteArray) (w : World)
    (ha : 0 ≤ ak ∧ ak < 256 ∧ -9223372036854775808 ≤ an ∧ an < 9223372036854775808) (hb : 0 ≤ bk ∧ bk < 256 ∧ -9223372036854775808 ≤ bn ∧ bn < 9223372036854775808) (hc : 0 ≤ ck ∧ ck < 256 ∧ -9223372036854775808 ≤ cn ∧ cn < 9223372036854775808) (hv : Vars w) :
    Calls Tryd.prog 3 #[.agg #[.int .u8 ak, .int .i64 an, .string as'], .agg #[.int .u8 bk, .int .i64 bn, .string bs], .agg #[.int .u8 ck, .int .i64 cn, .string cs]] w (ToldG (.bool true) w) := by
  have HV := Lib.hid hv
  clear hv
  have HK := Lib.hid (fun w' hv => knows5_any hI hT hU hR hS hP hC w' hv)
  have HC := Lib.hid hC
  clear hI hT hU hR hS hP hC
  obtain ⟨W, hW⟩ : ∃ W, W = ((w.alloc (.cells #[.int .u8 ak, .int .i64 an, .string as'] 23)).alloc (.cells #[.int .u8 bk, .int .i64 bn, .string bs] 23)).alloc (.cells #[.int .u8 ck, .int .i64 cn, .string cs] 23) := ⟨_, rfl⟩
  have HG := Lib.hid (show w.grownBy W none by rw [hW]; exact grown_alloc (grown_alloc (World.grownBy_alloc w _ none) _) _)
  have HBA := Lib.hid (show Box W w.heap.size 23 #[.int .u8 ak, .int .i64 an, .string as'] by rw [hW]; exact ((Box.fresh w _ _).alloc _).alloc _)
  have HBB := Lib.hid (show Box W (w.heap.size + 1) 23 #[.int .u8 bk, .int .i64 bn, .string bs] by
    rw [hW]
    have h := Box.fresh (w.alloc (.cells #[.int .u8 ak, .int .i64 an, .string as'] 23)) 23 #[.int .u8 bk, .int .i64 bn, .string bs]
    rw [show (w.alloc (.cells #[.int .u8 ak, .int .i64 an, .string as'] 23)).heap.size = w.heap.size + 1 by simp] at h
    exact h.alloc _)
  have HBC := Lib.hid (show Box W (w.heap.size + 1 + 1) 23 #[.int .u8 ck, .int .i64 cn, .string cs] by
    rw [hW]
    have h := Box.fresh ((w.alloc (.cells #[.int .u8 ak, .int .i64 an, .string as'] 23)).alloc (.cells #[.int .u8 bk, .int .i64 bn, .string bs] 23)) 23 #[.int .u8 ck, .int .i64 cn, .string cs]
    rw [show ((w.alloc (.cells #[.int .u8 ak, .int .i64 an, .string as'] 23)).alloc (.cells #[.int .u8 bk, .int .i64 bn, .string bs] 23)).heap.size = w.heap.size + 2 by simp] at h
    exact h)
  have HWE := Lib.hid hW
  have HLI := Lib.hid (light_any _ 3 3 [⟨ak, an, as'⟩, ⟨bk, bn, bs⟩, ⟨ck, cn, cs⟩] _ _ (own_three (w := W) (e := 23) (a := ⟨ak, an, as'⟩) (b := ⟨bk, bn, bs⟩) (c := ⟨ck, cn, cs⟩)).labs (by omega))
  have HSZ := Lib.hid (show W.heap.size = w.heap.size + 3 by rw [hW]; simp)
  clear hW
  obtain ⟨a0, a1, a2⟩ := cells3 HBA.out
  obtain ⟨b0, b1, b2⟩ := cells3 HBB.out
  obtain ⟨c0, c1, c2⟩ := cells3 HBC.out
  go_enter Tryd.func3, Tryd.ntmps3
  go_upto_region 1 with fail
  rw [← HWE.out]
  go_wp2_with fail
  refine HLI.out.mono ?_
  rintro e w1 ⟨b, rfl, hl, hw1⟩
  have HL := Lib.hid hl
  have HG1 := Lib.hid (show w.grownBy w1 none by rw [hw1]; exact grown_alloc HG.out _)
  have KA := Lib.hid (show Box w1 w.heap.size 23 #[.int .u8 ak, .int .i64 an, .string as'] by rw [hw1]; exact HBA.out.alloc _)
  have KB := Lib.hid (show Box w1 (w.heap.size + 1) 23 #[.int .u8 bk, .int .i64 bn, .string bs] by rw [hw1]; exact HBB.out.alloc _)
  have KC := Lib.hid (show Box w1 (w.heap.size + 1 + 1) 23 #[.int .u8 ck, .int .i64 cn, .string cs] by rw [hw1]; exact HBC.out.alloc _)
  have HSZ1 := Lib.hid (show w1.heap.size = w.heap.size + 4 by rw [hw1]; simp [HSZ.out])
  clear hl hw1 a0 a1 a2 b0 b1 b2 c0 c1 c2 HBA HBB HBC HLI
  cases b
  · go_wp2_with fail
    refine (HK.out _ (HV.out.grow HG1.out)).mono ?_
    rintro e w2 ⟨rfl, hg⟩
    have HG2 := Lib.hid (grown_join HG1.out hg (.inr (by simp)))
    clear hg
    go_wp2_with fail
    go_ret
    exact ⟨rfl, HG2.out⟩
  · have HSA := Lib.hid (show as'.size ≤ 300 ∧ bs.size ≤ 300 ∧ cs.size ≤ 300 from ⟨(HL.out rfl).2 0 (by simp), (HL.out rfl).2 1 (by simp), (HL.out rfl).2 2 (by simp)⟩)
    obtain ⟨a0, a1, a2⟩ := cells3 KA.out
    obtain ⟨b0, b1, b2⟩ := cells3 KB.out
    obtain ⟨c0, c1, c2⟩ := cells3 KC.out
    have NINE := Lib.hid (And.intro a0 (And.intro a1 (And.intro a2 (And.intro b0 (And.intro b1 (And.intro b2 (And.intro c0 (And.intro c1 c2))))))))
    go_upto_region 3 with fail
    go_cut [7, 8, 9] (fun v7 v8 v9 wc => Three w1 27 ⟨ak, an, as'⟩ ⟨bk, bn, bs⟩ ⟨ck, cn, cs⟩ v7 v8 v9 wc)
    case first =>
      go_region_held3 (fun w' => w'.cell? ⟨w.heap.size, 0, none⟩ = some (.int .u8 ak) ∧ w'.cell? ⟨w.heap.size, 1, none⟩ = some (.int .i64 an) ∧ w'.cell? ⟨w.heap.size, 2, none⟩ = some (.string as') ∧ w'.cell? ⟨w.heap.size + 1, 0, none⟩ = some (.int .u8 bk) ∧ w'.cell? ⟨w.heap.size + 1, 1, none⟩ = some (.int .i64 bn) ∧ w'.cell? ⟨w.heap.size + 1, 2, none⟩ = some (.string bs) ∧ w'.cell? ⟨w.heap.size + 1 + 1, 0, none⟩ = some (.int .u8 ck) ∧ w'.cell? ⟨w.heap.size + 1 + 1, 1, none⟩ = some (.int .i64 cn) ∧ w'.cell? ⟨w.heap.size + 1 + 1, 2, none⟩ = some (.string cs)) (repeat (first | exact NINE.out | refine nine_al ?_ | refine nine_st ?_ (by have h := HSZ1.out; simp; omega))) (fail)
      all_goals go_wp2
      all_goals go_meet
      all_goals
        (obtain ⟨w', hw', k0, k1, k2, kg⟩ := heap3 w1 _ _ _
         rw [← hw']
         exact three_mk kg (by assumption) (by assumption) (by assumption))
    case rest =>
      obtain ⟨i, j, k, rfl, rfl, rfl, hx, hy, hz, hg⟩ := hcut
      have HX := Lib.hid hx
      have HY := Lib.hid hy
      have HZ := Lib.hid hz
      have HG2 := Lib.hid (grown_join HG1.out hg (.inr (by simp)))
      have JA := Lib.hid (KA.out.grown hg (by simp))
      have JB := Lib.hid (KB.out.grown hg (by simp))
      have JC := Lib.hid (KC.out.grown hg (by simp))
      clear hx hy hz hg NINE KA KB KC a0 a1 a2 b0 b1 b2 c0 c1 c2
      have HGC := Lib.hid (grown_refl wc none)
      have NINE2 := Lib.hid (nine_box HX.out HY.out HZ.out)
      dsimp only at NINE2
      have okA : okL ⟨ak, an, as'⟩ := ⟨ha.1, ha.2.1, ha.2.2.1, ha.2.2.2, Nat.le_trans HSA.out.1 (by omega)⟩
      have okB : okL ⟨bk, bn, bs⟩ := ⟨hb.1, hb.2.1, hb.2.2.1, hb.2.2.2, Nat.le_trans HSA.out.2.1 (by omega)⟩
      have okC : okL ⟨ck, cn, cs⟩ := ⟨hc.1, hc.2.1, hc.2.2.1, hc.2.2.2, Nat.le_trans HSA.out.2.2 (by omega)⟩
      have HCC := Lib.hid (fun k1 n1 s1 k2 n2 s2 w' (h1 : okL ⟨k1, n1, s1⟩) (h2 : okL ⟨k2, n2, s2⟩) => show Calls Tryd.prog 7 #[.agg #[.int .u8 k1, .int .i64 n1, .string s1], .agg #[.int .u8 k2, .int .i64 n2, .string s2]] w' (ToldG (.int .i64 (cmpE ⟨k1, n1, s1⟩ ⟨k2, n2, s2⟩)) w') from HC.out _ _ w' h1 h2)
      have HRC := Lib.hid (fun w' => ref5Compare_any ⟨ak, an, as'⟩ ⟨bk, bn, bs⟩ w' okA.2.2.2.2 okB.2.2.2.2)
      go_upto_region 4 with fail
      go_cut [10, 11, 12] (fun v10 v11 v12 wd => v10 = .int .i64 (cmpE ⟨ak, an, as'⟩ ⟨bk, bn, bs⟩) ∧ v11 = .int .i64 (cmpE ⟨bk, bn, bs⟩ ⟨ck, cn, cs⟩) ∧ v12 = .int .i64 (cmpE ⟨ak, an, as'⟩ ⟨ck, cn, cs⟩) ∧ wc.grownBy wd none)
      case first =>
        go_region_held3 (fun w' => w'.cell? ⟨i, 0, none⟩ = some (.int .u8 ak) ∧ w'.cell? ⟨i, 1, none⟩ = some (.int .i64 an) ∧ w'.cell? ⟨i, 2, none⟩ = some (.string as') ∧ w'.cell? ⟨j, 0, none⟩ = some (.int .u8 bk) ∧ w'.cell? ⟨j, 1, none⟩ = some (.int .i64 bn) ∧ w'.cell? ⟨j, 2, none⟩ = some (.string bs) ∧ w'.cell? ⟨k, 0, none⟩ = some (.int .u8 ck) ∧ w'.cell? ⟨k, 1, none⟩ = some (.int .i64 cn) ∧ w'.cell? ⟨k, 2, none⟩ = some (.string cs)) (first | exact KEEP.out | exact NINE2.out) (first
          | (go_at_call 7; refine (HCC.out _ _ _ _ _ _ _ (by assumption) (by assumption)).mono ?_; rintro e w2 ⟨rfl, hg2⟩; have HGC := Lib.hid (grown_join (grown_drewN HGC.out _) hg2 (.inr (by simp))); clear hg2; have KEEP := Lib.hid (nine_box (HX.out.grown HGC.out (by simp)) (HY.out.grown HGC.out (by simp)) (HZ.out.grown HGC.out (by simp))))
          | (go_at_call 7; refine (HCC.out _ _ _ _ _ _ _ (by assumption) (by assumption)).mono ?_; rintro e w2 ⟨rfl, hg2⟩; have HGC := Lib.hid (grown_join HGC.out hg2 (.inr (by simp))); clear hg2; have KEEP := Lib.hid (nine_box (HX.out.grown HGC.out (by simp)) (HY.out.grown HGC.out (by simp)) (HZ.out.grown HGC.out (by simp)))))
        all_goals go_wp2
        all_goals go_meet
        all_goals exact ⟨rfl, rfl, rfl, HGC.out⟩
      case rest =>
        obtain ⟨rfl, rfl, rfl, hg⟩ := hcut
        have HG3 := Lib.hid (grown_join HG2.out hg (.inr (by simp)))
        obtain ⟨a0, a1, a2⟩ := cells3 (JA.out.grown hg (by simp))
        obtain ⟨b0, b1, b2⟩ := cells3 (JB.out.grown hg (by simp))
        have HXD := Lib.hid (HX.out.grown hg (by simp))
        have HYD := Lib.hid (HY.out.grown hg (by simp))
        have JAD := Lib.hid (JA.out.grown hg (by simp))
        have JBD := Lib.hid (JB.out.grown hg (by simp))
        have hsame := tot_cmp.same ⟨ak, an, as'⟩ ⟨bk, bn, bs⟩ trivial trivial
        have hanti := tot_cmp.anti ⟨ak, an, as'⟩ ⟨bk, bn, bs⟩ trivial trivial
        have hup := tot_cmp.up (x := ⟨ak, an, as'⟩) (y := ⟨bk, bn, bs⟩) (z := ⟨ck, cn, cs⟩) trivial trivial trivial
        have hdown := tot_cmp.down (x := ⟨ak, an, as'⟩) (y := ⟨bk, bn, bs⟩) (z := ⟨ck, cn, cs⟩) trivial trivial trivial
        have kn := tot_cmp.kinds ⟨ak, an, as'⟩ ⟨bk, bn, bs⟩
        have km := tot_cmp.kinds ⟨bk, bn, bs⟩ ⟨ck, cn, cs⟩
        have kk := tot_cmp.kinds ⟨ak, an, as'⟩ ⟨ck, cn, cs⟩
        have HYX := Lib.hid (fun w' => HCC.out bk bn bs ak an as' w' okB okA)
        rw [hanti] at HYX
        have HRC2 := Lib.hid (fun w' => show Calls Tryd.prog 8 #[.agg #[.int .u8 ak, .int .i64 an, .string as'], .agg #[.int .u8 bk, .int .i64 bn, .string bs]] w' (ToldG (.int .i64 (cmpE ⟨ak, an, as'⟩ ⟨bk, bn, bs⟩)) w') from HRC.out w')
        generalize cmpE ⟨ak, an, as'⟩ ⟨bk, bn, bs⟩ = n at *
        generalize cmpE ⟨bk, bn, bs⟩ ⟨ck, cn, cs⟩ = m at *
        generalize cmpE ⟨ak, an, as'⟩ ⟨ck, cn, cs⟩ = q at *
        have hq := eql_rlab ⟨ak, an, as'⟩ ⟨bk, bn, bs⟩
        have hbe : eqlL ⟨ak, an, as'⟩ ⟨bk, bn, bs⟩ = decide (n = 0) := by
          unfold eqlL
          exact decide_eq_decide.2 hsame.symm
        rw [hbe] at hq
        dsimp only at hq
        clear hbe hsame hanti hg okA okB okC HCC HRC HC ha hb hc HX HY HZ JA JB JC
        have KM := Lib.hid (And.intro km (And.intro kk (And.intro hup hdown)))
        clear km kk hup hdown
        rcases kn with rfl | rfl | rfl
        all_goals
          simp only [Int.reduceEq, decide_false, decide_true, Int.neg_neg, Int.reduceNeg] at hq HYX
          go_wp2_with fail
          refine (HRC2.out _).mono ?_
          rintro e w5 ⟨rfl, hg⟩
          have HG5 := Lib.hid (grown_join HG3.out hg (.inr (by simp)))
          have HXE := Lib.hid (HXD.out.grown hg (by simp))
          have HYE := Lib.hid (HYD.out.grown hg (by simp))
          have JAE := Lib.hid (JAD.out.grown hg (by simp))
          have JBE := Lib.hid (JBD.out.grown hg (by simp))
          clear hg a0 a1 a2 b0 b1 b2
          obtain ⟨x0, x1, x2⟩ := cells3 HXE.out
          obtain ⟨y0, y1, y2⟩ := cells3 HYE.out
          dsimp only at x0 x1 x2 y0 y1 y2
          go_wp2_with fail
          refine (HYX.out _).mono ?_
          rintro e w6 ⟨rfl, hg⟩
          have HG6 := Lib.hid (grown_join HG5.out hg (.inr (by simp)))
          obtain ⟨a0, a1, a2⟩ := cells3 (JAE.out.grown hg (by simp))
          obtain ⟨b0, b1, b2⟩ := cells3 (JBE.out.grown hg (by simp))
          clear hg x0 x1 x2 y0 y1 y2
          go_upto_region 7 with fail
          obtain ⟨km, kk, hup, hdown⟩ := KM.out
          rcases km with rfl | rfl | rfl <;> rcases kk with rfl | rfl | rfl <;> first | (exfalso; omega) | skip
        all_goals
          clear hup hdown
          go_wp2_with fail
          refine (HK.out _ (HV.out.grow HG6.out)).mono ?_
          rintro e w7 ⟨rfl, hg⟩
          have HG7 := Lib.hid (grown_join HG6.out hg (.inr (by simp)))
          clear hg
          go_wp2_with fail
          go_ret
          exact ⟨rfl, HG7.out⟩
end Go.Proofs.YtblmnbaejfhagaaDoor
