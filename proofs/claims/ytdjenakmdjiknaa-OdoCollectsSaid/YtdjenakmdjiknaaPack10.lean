/-
  Texts of this claim, one behind the other.
-/
import Derived.Lib.AppendZeros
import Derived.Lib.SliceRun
import Derived.Lib.AppendZerosOnto
import Derived.Lib.Overlaps
import Derived.Laws.Externs
import Derived.Deep.RegionLaw
import Derived.Test.YtdjenakmdjiknaaPack1
import Derived.Test.YtdjenakmdjiknaaPack2
import Derived.Test.YtdjenakmdjiknaaPack3
import Derived.Test.YtdjenakmdjiknaaPack4
import Derived.Test.YtdjenakmdjiknaaPack5
import Derived.Test.YtdjenakmdjiknaaPack6
import Derived.Test.YtdjenakmdjiknaaPack7
import Derived.Test.YtdjenakmdjiknaaPack8
import Derived.Test.YtdjenakmdjiknaaPack9

/-! Layer 9, the program's own: Offsets, Collect. -/
section
namespace Go.Proofs.Ytdjenakmdjiknaa
open Go.ChangeShapes Go.WideShapes Go.ChangeAt Go.RowKit Go.Shelf
set_option linter.unusedVariables false
set_option maxRecDepth 100000
attribute [local go_sem] Oper.semAt_some

/-- Offsets tells a function whose walk stands ahead of the first cell. -/
def GaveOff (v : Vw) (w : World) (e : Ending) (w' : World) : Prop := ∃ b z, e = .returned (.func (.func 45) #[] #[.pointer (some ⟨b, 0, none⟩)]) ∧ w.heap.size ≤ b ∧ WalkB w' b 62 [] z ∧ WalkOf z v 0 false ∧ w.grownBy w' none
set_option maxHeartbeats 2000000 in
theorem own9_offsets (A A' : Option Addr) (n c n' c' : Nat) (s t : List Int) (o : Int) (w : World) (h : NumsF w A n c s) (h' : NumsF w A' n' c' t) (hn : n ≤ 1048576) (hn' : n' ≤ 1048576) :
    Calls Try.prog 24 #[.agg #[.slice A n c, .slice A' n' c', .int .i64 o]] w (GaveOff ⟨s, t, o⟩ w) := by
  have HBG := Lib.hid (fun w' (hg : w.grownBy w' none) => own9_begin A A' n c n' c' s t o w' (h.grow hg) (h'.grow hg) hn hn')
  obtain ⟨w1, hw1⟩ : ∃ w1, w1 = w.alloc (.cells #[.slice A n c, .slice A' n' c', .int .i64 o] 34) := ⟨_, rfl⟩
  have HX := Lib.hid (show Box w1 w.heap.size 34 #[.slice A n c, .slice A' n' c', .int .i64 o] by rw [hw1]; exact Box.fresh _ _ _)
  have HG1 := Lib.hid (show w.grownBy w1 none by rw [hw1]; exact World.grownBy_alloc _ _ _)
  have HW1 := Lib.hid hw1
  clear hw1 h h'
  go_enter Try.func24, Try.ntmps24
  go_upto_region 1 with fail
  rw [← HW1.out]
  have x0 := HX.out.get 0
  have x1 := HX.out.get 1
  have x2 := HX.out.get 2
  go_wp2_with fail
  refine (HBG.out _ HG1.out).mono ?_
  rintro e w2 ⟨⟨z, rfl, hz⟩, hg⟩
  have HZ := Lib.hid hz
  have HG2 := Lib.hid (grown_join HG1.out hg (.inr (by simp)))
  have HF2 := Lib.hid (fresh_walk w2)
  clear hg hz x0 x1 x2
  go_wp2_with (refine store_walk rfl _ _ rfl z rfl rfl HF2.out rfl ?_; intro w3 HB3 HG3)
  go_ret
  exact ⟨w2.heap.size, z, rfl, HG2.out.size, HB3.out, HZ.out, grown_join HG2.out (grown_join (World.grownBy_alloc w2 (.cells (walkL zeroW).toArray 62) none) HG3.out (.inr fun x e => by injection e with e; omega)) (.inr (by simp))⟩
theorem plain_off (args : Array Value) (W : World) : (callFunc 45 args).run Try.prog W = .ok (.enter 45 args) W := enters_of Try.func45 (by kernel_rfl) rfl args W
/-- what Offsets' function yields, in whatever world its walk lies. -/
theorem offsets_own (n : Nat) (hn : 1 ≤ n) (b : Nat) (z : WalkS) (v : Vw) (X : Nat → Prop) (W0 : World) (hB : WalkB W0 b 62 [] z) (hZ : WalkOf z v 0 false) (hX : ∀ x, X x → x < W0.heap.size) :
    SeqOwns n 45 #[.pointer (some ⟨b, 0, none⟩)] enc1 (KeepX X) (fun ys => ys = colL v) (fun pre => ∃ k, k ≤ (colL v).length ∧ pre = (colL v).take k) (colL v).length W0 :=
  fun l J Jx W hW hJ hJx hY h0 => own9_offsets1 n hn l b z v X J Jx W hJ hY (hB.grown (grown_of_below hW) (by simp)) hZ (fun x hx => Nat.lt_of_lt_of_le (hX x hx) (grown_of_below hW).size) h0
theorem offsets_is {A A' : Option Addr} {n c n' c' : Nat} {v : Vw} {w w' : World} {e : Ending} (h : GaveOff v w e w') : SeqIs enc1 (colL v) (Clear A n A' n') w e w' := by
  obtain ⟨b, z, rfl, _, hB, hZ, hg⟩ := h
  exact ⟨hg, _, _, rfl, plain_off, fun n W X hn hW hX => offsets_own n (by omega) b z v X W (hB.grown hW (by simp)) hZ fun x hx => Nat.lt_of_lt_of_le (hX x hx).1 (Nat.le_trans hg.size hW.size)⟩

/-! ### Collect -/
theorem make_room9 (m : Nat) (hm : m ≤ 1048576) : ∃ Z : Array Value, Z.size = m ∧ ∀ W : World, (Instr.makeSlice 22 (.int .i64 0) (.int .i64 (m : Int))).run Try.prog W = .ok (.slice (some ⟨W.heap.size, 0, none⟩) 0 m) (W.alloc (.cells Z 3)) := by
  obtain ⟨i0, hi, hz0, hz1, hz2⟩ := info_parts info_int
  refine ⟨madeCells (Value.int .i64 0).cells (m * i0.size), ?_, fun W => ?_⟩
  · rw [hz1]; simp [madeCells]
  · have h := run_make (P := Try.prog) W 22 3 i0 _ Try.underlying22 hi hz0 .i64 .i64 0 (m : Int) (by omega) (by omega) (by rw [hz2]; omega) (by omega)
    simpa using h
theorem room_own {w : World} {g base m : Nat} {Z : Array Value} (h : Box w g 3 Z) (hb : base ≤ g) (hZ : Z.size = m) (hm : m ≤ 1048576) : OwnI w base (some ⟨g, 0, none⟩) 0 m [] :=
  ⟨rfl, rfl, .inr ⟨g, m, Z, rfl, hb, h, Nat.zero_le _, by unfold maxLen; omega, by rw [hZ]; simp, by simp [intV]⟩⟩
/-- one number more, where there is room: the row stays where it is. -/
theorem in_append_room {F : Fence} {N : Nat} {ops : Array Oper} {rest : List Oper} {op : Oper} {a : Act} {w : World} {Q : Exit → Act → World → Prop} {base g n c b : Nat} {xs : List Int} {x : Int} {t' : TypeId} (hgd : op.guard = none) (d s : Operand)
    (hop : op.op = .call { callee := .builtin .append, args := #[d, s], argTypes := #[22, 22] }) (hd : a.eval d = .slice (some ⟨g, 0, none⟩) n c) (hs : a.eval s = .slice (some ⟨b, 0, none⟩) 1 1) (hown : OwnI w base (some ⟨g, 0, none⟩) n c xs) (hc : n + 1 ≤ c) (hx : Box w b t' #[.int .i64 x])
    (hK : ∀ w1, Hid (OwnI w1 base (some ⟨g, 0, none⟩) (n + 1) c (xs ++ [x])) → Hid (w.grownBy w1 (some g)) → wpListIn F N Try.prog ops Q rest (a.put op.dst (.slice (some ⟨g, 0, none⟩) (n + 1) c)) w1) : wpListIn F N Try.prog ops Q (op :: rest) a w := by
  obtain ⟨i0, hi, hz0, hz1, hz2⟩ := info_parts info_int
  refine wpListIn_append_fits w hgd d s 22 hop base 3 i0 1 Try.underlying22 hi hz1 g n c (intV xs) hd hown.2 ⟨b, 0, none⟩ 1 1 [.int .i64 x] hs rfl ?_ (by intro u hu; simp at hu; subst hu; rfl) hc fun w1 h1 h2 => hK w1 (Lib.hid ⟨by rw [List.length_append, hown.1]; rfl, by rw [intV_snoc]; exact h1⟩) (Lib.hid h2)
  intro j u hu
  match j, hu with
  | 0, hu =>
    have := hx.get 0
    rw [Addr.add_lit]
    exact this.trans hu
theorem own_cells {w : World} {base g n c : Nat} {xs : List Int} (h : OwnI w base (some ⟨g, 0, none⟩) n c xs) : ∃ cur, w.heap[g]? = some (.cells cur 3 (0, 0)) := by
  rcases h.2.2 with ⟨e, _⟩ | ⟨k, cap, cur, e, _, hk, _⟩
  · cases e
  · injection e with e1 e2 e3
    injection e1 with e1
    injection e1 with e1
    subst e1
    exact ⟨cur, hk⟩
theorem keepX_row {X : Nat → Prop} {A B : World} {g : Nat} (h : A.grownBy B (some g)) (hg : X g) : KeepX X A B :=
  ⟨h.size, fun x o hx hn _ => (h.block x (Array.getElem?_eq_some_iff.1 hx).1 (fun e => by injection e with e; subst e; exact hn hg)).trans hx⟩
theorem others_row {A B : World} {g : Nat} {cur : Array Value} {t : TypeId} {fr : Nat × Nat} (h : A.grownBy B (some g)) (hg : A.heap[g]? = some (.cells cur t fr)) : KeepsOthers A B :=
  KeepsOthers.of_grownBy h fun j o e ho => by injection e with e; subst e; rw [hg] at ho; injection ho with ho; subst ho; rfl
theorem field_left (a0 a1 a2 a3 a4 a5 a6 a7 a8 a9 b0 b1 b2 b3 b4 b5 b6 b7 b8 b9 c0 : Value) (m : Int) (w : World) : (Instr.field 62 (.agg #[a0, a1, a2, a3, a4, a5, a6, a7, a8, a9, b0, b1, b2, b3, b4, b5, b6, b7, b8, b9, c0, .int .i64 m]) 6).run Try.prog w = .ok (.int .i64 m) w := by kernel_rfl
set_option maxHeartbeats 4000000 in
theorem own9_collect (A A' : Option Addr) (n c n' c' : Nat) (s t : List Int) (o : Int) (w : World) (h : NumsF w A n c s) (h' : NumsF w A' n' c' t) (hn : n ≤ 1048576) (hn' : n' ≤ 1048576) :
    Calls Try.prog 12 #[.agg #[.slice A n c, .slice A' n' c', .int .i64 o]] w (GaveN (colL ⟨s, t, o⟩) w) := by
  have HBG := Lib.hid (fun w' (hg : w.grownBy w' none) => own9_begin A A' n c n' c' s t o w' (h.grow hg) (h'.grow hg) hn hn')
  have HOF := Lib.hid (fun w' (hg : w.grownBy w' none) => own9_offsets A A' n c n' c' s t o w' (h.grow hg) (h'.grow hg) hn hn')
  have hm := col_most ⟨s, t, o⟩
  have HM := Lib.hid hm
  obtain ⟨Z, hZ, hmk⟩ := make_room9 _ hm
  obtain ⟨v, hv⟩ : ∃ v, v = (⟨s, t, o⟩ : Vw) := ⟨_, rfl⟩
  rw [← hv] at HBG HOF HM hZ hmk ⊢
  obtain ⟨w1, hw1⟩ : ∃ w1, w1 = w.alloc (.cells #[.slice A n c, .slice A' n' c', .int .i64 o] 34) := ⟨_, rfl⟩
  have HX := Lib.hid (show Box w1 w.heap.size 34 #[.slice A n c, .slice A' n' c', .int .i64 o] by rw [hw1]; exact Box.fresh _ _ _)
  have HG1 := Lib.hid (show w.grownBy w1 none by rw [hw1]; exact World.grownBy_alloc _ _ _)
  have HW1 := Lib.hid hw1
  have HZS := Lib.hid hZ
  clear hw1 h h' hv hm hZ
  refine (callsIn_wide (n := 9)).1 ?_
  refine callsIn_of_wp_marks Try.func12 rfl trivial ?_ rfl
  simp only [Try.ntmps12, List.size_toArray, List.length_cons, List.length_nil, Nat.reduceAdd, Nat.reduceSub, Array.replicate_succ, Array.replicate_zero, List.push_toArray, List.append_toArray, List.nil_append, List.cons_append]
  refine wpIn_wide.2 ?_
  go_upto_region 1 with fail
  rw [← HW1.out]
  have x0 := HX.out.get 0
  have x1 := HX.out.get 1
  have x2 := HX.out.get 2
  go_wp2_with fail
  refine (HBG.out _ HG1.out).mono ?_
  rintro e w2 ⟨⟨z, rfl, hz⟩, hg⟩
  have HG2 := Lib.hid (grown_join HG1.out hg (.inr (by simp)))
  have HX2 := Lib.hid (HX.out.grown hg (by simp))
  have hzl : z.lf = ((colL v).length : Int) := by rw [hz.lf]; simp
  clear hg hz x0 x1 x2
  dsimp only [walkL]
  rw [hzl]
  have hfl := field_left
  go_upto_region 2 with fail
  obtain ⟨w3, hw3⟩ : ∃ w3, w3 = (w2.alloc (.cells Z 3)).alloc (.cells #[.slice (some ⟨w2.heap.size, 0, none⟩) 0 (colL v).length] 22) := ⟨_, rfl⟩
  obtain ⟨hz3, hb3, hg3⟩ := boxes9 w2 3 22 Z #[.slice (some ⟨w2.heap.size, 0, none⟩) 0 (colL v).length]
  rw [← hw3] at hz3 hb3 hg3 ⊢
  have HG3 := Lib.hid (grown_join HG2.out hg3 (.inr (by simp)))
  have HX3 := Lib.hid (HX2.out.grown hg3 (by simp))
  have HZ3 := Lib.hid hz3
  have HB3 := Lib.hid hb3
  clear hw3 hz3 hb3 hg3 hfl hmk
  have x0 := HX3.out.get 0
  have x1 := HX3.out.get 1
  have x2 := HX3.out.get 2
  go_wp2_with fail
  refine (HOF.out _ HG3.out).mono ?_
  rintro e w4 ⟨b, z4, rfl, hb4, hB4, hZ4, hg4⟩
  have HB4 := Lib.hid hB4
  have HZ4 := Lib.hid hZ4
  have HG4 := Lib.hid hg4
  have HLB := Lib.hid (show w.heap.size ≤ w2.heap.size ∧ w2.heap.size + 1 < w3.heap.size ∧ w3.heap.size ≤ b ∧ b < w4.heap.size ∧ w3.heap.size ≤ w4.heap.size from ⟨HG2.out.size, HB3.out.small, hb4, hB4.small, hg4.size⟩)
  have HB5 := Lib.hid (HB3.out.grown hg4 (by simp))
  have HO5 := Lib.hid (room_own (HZ3.out.grown hg4 (by simp)) HLB.out.1 HZS.out HM.out)
  have HGW := Lib.hid (grown_join HG3.out hg4 (.inr (by simp)))
  clear x0 x1 x2 hb4 hB4 hZ4 hg4 hzl
  go_wp2_with fail
  refine (wpIn_wide (n := 9)).1 ?_
  refine range_own (by omega) (gf := 45) (lb := #[.pointer (some ⟨b, 0, none⟩)]) rfl plain_off (offsets_own 8 (by omega) b z4 v (fun x => x = w2.heap.size ∨ x = w2.heap.size + 1) w4 HB4.out HZ4.out (by have := HLB.out; rintro x (rfl | rfl) <;> omega)) (fun h1 h2 => keepX_t h1 h2) (fun W l o o' h1 h2 h3 h4 => keepX_b W l o o' h1 h2 h3 h4) (fun _ => rfl)
    (fun pre W => Box W (w2.heap.size + 1) 22 #[.slice (some ⟨w2.heap.size, 0, none⟩) pre.length (colL v).length] ∧ OwnI W w.heap.size (some ⟨w2.heap.size, 0, none⟩) pre.length (colL v).length pre ∧ w.grownBy W none)
    (fun _ _ _ => False)
    (fun pre Wa Wb row hs hg hr => ⟨hs.1.grown hg (fun e => by have h1 := (hr _ e.symm).1; have h2 := HLB.out; omega), own_far hs.2.1 hg (.inr fun e => by have h1 : w4.heap.size ≤ w2.heap.size := (hr _ e.symm).1; have h2 := HLB.out; omega), grown_join hs.2.2 hg (.inr fun z e => by have h1 := (hr z e).1; have h2 := HLB.out; omega)⟩)
    (fun c pre Wa Wb row hs hg hr => hs) ⟨HB5.out, HO5.out, HGW.out⟩
    (fun x => { tmps := #[.agg #[.slice A n c, .slice A' n' c', .int .i64 o], .pointer (some ⟨w.heap.size, 0, none⟩), .slice none 0 0, .pointer (some ⟨w2.heap.size + 1, 0, none⟩), .int .i64 x, .agg #[.slice A n c, .slice A' n' c', .int .i64 o], .agg #[.int .i64 z.ax, .int .i64 (z.sz 0), .int .i64 (z.sz 1), .int .i64 (z.sz 2), .int .i64 (z.sz 3), .int .i64 (z.sz 4), .int .i64 (z.sz 5), .int .i64 (z.st 0), .int .i64 (z.st 1), .int .i64 (z.st 2), .int .i64 (z.st 3), .int .i64 (z.st 4), .int .i64 (z.st 5), .int .i64 (z.dg 0), .int .i64 (z.dg 1), .int .i64 (z.dg 2), .int .i64 (z.dg 3), .int .i64 (z.dg 4), .int .i64 (z.dg 5), .int .i64 z.pl, .bool z.on, .int .i64 ((colL v).length : Nat)], .int .i64 ((colL v).length : Nat), .slice (some ⟨w2.heap.size, 0, none⟩) 0 (colL v).length, .agg #[.slice A n c, .slice A' n' c', .int .i64 o], .func (.func 45) #[] #[.pointer (some ⟨b, 0, none⟩)], .int .i64 x, undef, undef, undef, undef, undef], defers := [] }) ?assign ?body ?done ?stop
  case assign =>
    intro l x W K hK
    dsimp only [enc1]
    gi_wp2
    exact hK
  case body =>
    rintro l pre x W ⟨hb, ho, hg⟩ hlt
    obtain ⟨k, hk⟩ : ∃ k, pre.length = k := ⟨_, rfl⟩
    rw [hk] at hb ho hlt
    have HBX := Lib.hid hb
    have HOX := Lib.hid (ho.grow (World.grownBy_alloc W (.cells #[.int .i64 x] 3) none))
    have HGX := Lib.hid hg
    have HK := Lib.hid hk
    have HFX := Lib.hid (Box.fresh W 3 #[.int .i64 x])
    have hbs := hb.small
    have x0 := hb.get 0
    clear hb ho hg hk
    gi_wp2_with (gi_at_builtin; refine in_append_room rfl _ _ rfl rfl rfl HOX.out hlt HFX.out ?_; intro w5 HO6 HG6; have HBY := Lib.hid ((HBX.out.alloc (.cells #[.int .i64 x] 3)).grown HG6.out (fun e => by injection e with e; omega)); have y0 := HBY.out.get 0; have y1 := HBY.out.free 0)
    obtain ⟨cur, hcur⟩ := own_cells HOX.out
    have hlb := HLB.out
    refine ⟨((KeepsOthers.alloc _ _).trans (others_row HG6.out hcur)).trans (KeepsOthers.setCell _ _ _), keepX_t (keepX_grown (World.grownBy_alloc _ _ _)) (keepX_t (keepX_row HG6.out (.inl rfl)) (keepX_put (keepX_refl _ _) (.inr rfl) _)), ?_, ?_, ?_⟩
    · rw [List.length_append, HK.out]
      exact HBY.out.put 0 _
    · rw [List.length_append, HK.out]
      exact own_far HO6.out (grown_put (grown_refl _ (some (w2.heap.size + 1))) (.inl rfl) _) (.inr fun e => by have e' : w2.heap.size = w2.heap.size + 1 := Option.some.inj e; omega)
    · exact grown_put (grown_join (grown_alloc HGX.out _) HG6.out (.inr fun z e => by injection e with e; omega)) (.inr (by omega)) _
  case done =>
    rintro D xs W hD rfl ⟨hb, ho, hg⟩ hK
    have x0 := hb.get 0
    have HOX := Lib.hid ho
    have HGX := Lib.hid hg
    have HKD := Lib.hid hK
    have HDD := Lib.hid hD
    clear hb ho hg hK
    go_wp2_with fail
    refine ⟨by simp, .inl ⟨_, _, rfl, run_takeDeferred HKD.out, ?_⟩⟩
    have hlb := HLB.out
    have hdd := HDD.out
    have hgD := grownBy_putObj' W D (.deferred none)
    exact ⟨_, results_tmp rfl _ _ _, _, _, _, rfl, (own_far HOX.out hgD (.inr fun e => by have e' : w2.heap.size = D := Option.some.inj e; omega)).numsF, grown_join HGX.out hgD (.inr fun z e => by injection e with e; omega)⟩
  case stop =>
    rintro D c pre W _ _ h _
    exact h.elim
end Go.Proofs.Ytdjenakmdjiknaa
end

/-! Layer 7, the program's own: slices.Clone and slices.Delete at Shape; Without. -/
section
namespace Go.Proofs.Ytdjenakmdjiknaa
open Go.ChangeShapes Go.WideShapes Go.ChangeAt Go.RowKit
set_option linter.unusedVariables false
set_option maxRecDepth 100000

/-! ### append and the cuts, at whatever type of slices of numbers -/
theorem append_types {t u e e' : TypeId} (ht : Try.prog.underlying t = some (.slice e)) (hu : Try.prog.underlying u = some (.slice e')) (ty : TypeId) (A A' : Option Addr) (n c m c' : Nat) (w : World) :
    (Builtin.append_ #[t, u] ty #[.slice A n c, .slice A' m c']).run Try.prog w = (Builtin.append_ #[t, t] ty #[.slice A n c, .slice A' m c']).run Try.prog w := by
  simp [Builtin.append_, run_underlying ht, run_underlying hu]
theorem run_append_shape {w : World} {base n c m c' B : Nat} {A A' : Option Addr} {xs ys : List Int} {u : TypeId} (hu : Try.prog.underlying u = some (.slice 3)) (hown : OwnI w base A n c xs) (hsrc : Nums w B A' m ys) (hnone : A' = none → m = 0 ∧ c' = 0) (hb : base ≤ w.heap.size) (hle : n + m ≤ 4194304) (ty : TypeId) :
    ∃ A1 c1 w1, (Builtin.append_ #[32, u] ty #[.slice A n c, .slice A' m c']).run Try.prog w = .ok (.slice A1 (n + m) c1) w1 ∧ OwnI w1 base A1 (n + m) c1 (xs ++ ys) ∧ w.grownBy w1 (A.map (·.block)) := by
  obtain ⟨i0, hi, hz0, hz1, hz2⟩ := info_parts info_int
  rw [append_types Try.underlying32 hu]
  cases A' with
  | none =>
    obtain ⟨rfl, rfl⟩ := hnone rfl
    have hrun := run_append_owned_none (P := Try.prog) (w := w) base 32 ty 3 i0 1 Try.underlying32 hi _ n _ hown.2
    have hy : ys = [] := List.eq_nil_of_length_eq_zero hsrc.1
    subst hy
    rw [Nat.add_zero, List.append_nil]
    exact ⟨A, c, w, hrun, hown, grown_refl _ _⟩
  | some ad =>
    have hnews : ∀ j u, (intV ys)[j]? = some u → w.cell? (ad.add j) = some u := by
      intro j u hu
      have hj : j < ys.length := by rw [← intV_length]; exact (List.getElem?_eq_some_iff.1 hu).1
      obtain ⟨b, o, e, _, hc⟩ := hsrc.2 (by have := hsrc.1; omega)
      injection e with e
      subst e
      rw [Addr.add_lit, hc j (by have := hsrc.1; omega), ← intV_get ys j hj, hu]
    obtain ⟨v', w', hr, h2, h3, h4, h5⟩ := run_append_own_at (P := Try.prog) (w := w) base 32 ty 3 i0 _ 1 8 Try.underlying32 hi hz0 hz1 hz2 rfl (by omega) _ n _ hown.2 ad m c' (intV ys) (by rw [intV_length, hsrc.1]; omega) hnews (intV_one _) (by simp only [maxLen]; omega) (by omega) hb
    obtain ⟨A1, c1, rfl⟩ := own_slice1 h2
    refine ⟨A1, c1, w', hr, ⟨by rw [List.length_append, hown.1, hsrc.1], ?_⟩, by rw [map_own] at h3; exact h3⟩
    have e : intV (xs ++ ys) = intV xs ++ intV ys := by simp [intV]
    rw [e]
    exact h2
/-- append as one step of a region that draws its order, where its run is known. -/
theorem step_append_at {ops : Array Oper} {o : Oper} {a : Act} {w : World} {K : Act → World → Prop} {Q : Exit → Act → World → Prop} {E : Prop} {t u : TypeId} (hgd : o.guard = none) (d s : Operand)
    (ho : o.op = .call { callee := .builtin .append, args := #[d, s], argTypes := #[t, u] }) (vd vs : Value) (hd : a.eval d = vd) (hs : a.eval s = vs) {v' : Value} {w' : World} (hr : (Builtin.append_ #[t, u] o.type #[vd, vs]).run Try.prog w = .ok v' w') (hK : K (a.put o.dst v') w') :
    if Region.wanted o (yielded ops a.tmps) = true then Oper.wp Try.prog o a w K Q else E := by
  have hw : Region.wanted o (yielded ops a.tmps) = true := by simp [Region.wanted, hgd]
  rw [if_pos hw]
  unfold Oper.wp
  simp [execOp, ho, resolve, invoke, builtin, hd, hs, hr, Result.andThen]
  exact hK
theorem size_shape (w : World) : (sizeOf (Try.prog.elem 32)).run Try.prog w = .ok 1 w := by kernel_rfl
theorem cut_h (g o n c k : Nat) (hk : k ≤ c) (w : World) : (Instr.slice 32 (.slice (some ⟨g, o, none⟩) n c) none (some (.int .i64 (k : Int))) none).run Try.prog w = .ok (.slice (some ⟨g, o, none⟩) k c) w := by
  rw [run_slice_h (P := Try.prog) (w := w) (t := 32) (ht := Try.underlying32) (kh := .i64) (h := (k : Int)) (h0 := by omega) (h2 := by omega), size_shape]
  simp [Result.andThen, sliced, Addr.add]
theorem cut_l (g n c k : Nat) (hk : k ≤ n) (w : World) : (Instr.slice 32 (.slice (some ⟨g, 0, none⟩) n c) (some (.int .i64 (k : Int))) none none).run Try.prog w = .ok (.slice (some ⟨g, if c = k then 0 else k, none⟩) (n - k) (c - k)) w := by
  rw [run_slice_l (P := Try.prog) (w := w) (t := 32) (ht := Try.underlying32) (kl := .i64) (l := (k : Int)) (h0 := by omega) (h1 := by omega), size_shape]
  by_cases h : c = k
  · simp [Result.andThen, sliced, h]
  · simp [Result.andThen, sliced, Addr.add, h] <;> omega
theorem cut_lh (g n c k l : Nat) (hk : k ≤ l) (hl : l ≤ c) (hc : k < c) (w : World) : (Instr.slice 32 (.slice (some ⟨g, 0, none⟩) n c) (some (.int .i64 (k : Int))) (some (.int .i64 (l : Int))) none).run Try.prog w = .ok (.slice (some ⟨g, k, none⟩) (l - k) (c - k)) w := by
  rw [run_slice_lh (P := Try.prog) (w := w) (t := 32) (ht := Try.underlying32) (kl := .i64) (kh := .i64) (l := (k : Int)) (h := (l : Int)) (h0 := by omega) (h1 := by omega) (h2 := by omega), size_shape]
  have h : ¬ c = k := by omega
  simp [Result.andThen, sliced, Addr.add, h] <;> omega
theorem cut_lhm (A : Option Addr) (n c : Nat) (l h m : Int) (h0 : 0 ≤ l) (h1 : l ≤ h) (h2 : h ≤ m) (h3 : m ≤ c) : ∃ v, ∀ w : World, (Instr.slice 32 (.slice A n c) (some (.int .i64 l)) (some (.int .i64 h)) (some (.int .i64 m))).run Try.prog w = .ok v w := by
  refine ⟨sliced A l.toNat h.toNat m.toNat 1, fun w => ?_⟩
  rw [run_slice_lhm (P := Try.prog) (w := w) (t := 32) (ht := Try.underlying32) (kl := .i64) (kh := .i64) (km := .i64) (l := l) (h := h) (m := m) (h0 := h0) (h1 := h1) (h2 := h2) (h3 := h3), size_shape]
  rfl
/-! ### Clone -/
theorem nil_shape (A : Option Addr) (n c : Nat) (w : World) : (binOp .eql 32 (.slice A n c) (.slice none 0 0)).run Try.prog w = .ok (.bool A.isNone) w :=
  Lib.run_eql_slice_nil w 32 3 A n c 0 0 Try.underlying32
set_option maxHeartbeats 1000000 in
theorem own7_clone (A : Option Addr) (n c : Nat) (s : List Int) (w : World) (h : NumsF w A n c s) (hn : n ≤ 1048576) :
    Calls Try.prog 58 #[.slice A n c] w (GaveInts s w) := by
  cases A with
  | none =>
    have hc := h.2.2 rfl
    have hn0 : n = 0 := by have := h.2.1; omega
    subst hc
    subst hn0
    have hs : s = [] := List.eq_nil_of_length_eq_zero h.len
    subst hs
    clear h
    have hb := fun w' => nil_shape none 0 0 w'
    simp only [Option.isNone_none] at hb
    go_enter Try.func58, Try.ntmps58
    go_wp2_with fail
    go_ret
    exact ⟨none, 0, rfl, OwnI.nil _ _, grown_refl _ _⟩
  | some a =>
    have hnum := h.1.grow (World.grownBy_alloc w (.cells #[] 3) none)
    obtain ⟨A1, c1, w1, hrun, ho, hg⟩ := run_append_shape (u := 32) (ys := s) (c' := c) Try.underlying32 (ints_empty (heap_alloc_new w (.cells #[] 3)) (Nat.le_refl _)) hnum (fun e => by cases e) (by simp) (by omega) 32
    have HO := Lib.hid ho
    have HG := Lib.hid (grown_join (World.grownBy_alloc w (.cells #[] 3) none) hg (.inr fun b hb => by simp at hb; omega))
    have hl := h.len
    rw [Nat.zero_add] at hrun
    clear h hnum ho hg
    have hb := fun w' => nil_shape (some a) n c w'
    simp only [Option.isNone_some] at hb
    go_enter Try.func58, Try.ntmps58
    go_wp2_with (at_builtin; refine Lib.wpList_append_run _ rfl (.tmp 5) (.tmp 6) 32 32 rfl _ _ rfl rfl _ _ hrun ?_)
    go_ret
    exact GaveInts.of (List.nil_append s) hl (ints_as (Nat.zero_add n) rfl HO.out) HG.out
/-! ### Delete -/
/-! ### Without -/
end Go.Proofs.Ytdjenakmdjiknaa
end

/-! Layer 7, the program's own: slices.Insert of one number at Shape; With. -/
section
namespace Go.Proofs.Ytdjenakmdjiknaa
open Go.ChangeShapes Go.WideShapes Go.ChangeAt Go.RowKit
set_option linter.unusedVariables false
set_option maxRecDepth 100000

theorem own_open {w : World} {base n c : Nat} {A : Option Addr} {xs : List Int} (h : OwnI w base A n c xs) (h0 : 0 < n) :
    ∃ g cur, A = some ⟨g, 0, none⟩ ∧ base ≤ g ∧ w.heap[g]? = some (.cells cur 3 (0, 0)) ∧ n ≤ c ∧ c ≤ maxLen ∧ cur.size = c ∧ cur.toList.take n = intV xs := by
  obtain ⟨hl, _, hrow⟩ := h
  obtain ⟨e, h1⟩ | ⟨g', c', cur, e, hbase, hcell, hnc, hcm, hcs, htake⟩ := hrow
  · omega
  · injection e with e1 _ e3
    subst e3
    rw [Nat.mul_one] at hcs htake
    exact ⟨g', cur, e1, hbase, hcell, hnc, hcm, hcs, htake⟩
theorem own_close {w : World} {base n c g : Nat} {cur : Array Value} {xs : List Int} (hl : xs.length = n) (hb : base ≤ g) (hg : w.heap[g]? = some (.cells cur 3 (0, 0))) (hnc : n ≤ c) (hcm : c ≤ maxLen) (hcs : cur.size = c) (ht : cur.toList.take n = intV xs) : OwnI w base (some ⟨g, 0, none⟩) n c xs :=
  ⟨hl, by rw [intV_length, hl, Nat.mul_one], .inr ⟨g, c, cur, rfl, hb, hg, hnc, hcm, by rw [hcs, Nat.mul_one], by rw [Nat.mul_one]; exact ht⟩⟩
theorem cut_some (A : Option Addr) (n c : Nat) (l : Int) (h0 : 0 ≤ l) (h1 : l ≤ n) : ∃ v, ∀ w : World, (Instr.slice 32 (.slice A n c) (some (.int .i64 l)) none none).run Try.prog w = .ok v w := by
  refine ⟨sliced A l.toNat n c 1, fun w => ?_⟩
  rw [run_slice_l (P := Try.prog) (w := w) (t := 32) (ht := Try.underlying32) (kl := .i64) (l := l) (h0 := h0) (h1 := h1), size_shape]
  rfl
theorem cut_l2 (g n c k : Nat) (hk : k ≤ n) (hc : k < c) (w : World) : (Instr.slice 32 (.slice (some ⟨g, 0, none⟩) n c) (some (.int .i64 (k : Int))) none none).run Try.prog w = .ok (.slice (some ⟨g, k, none⟩) (n - k) (c - k)) w := by
  rw [cut_l g n c k hk, if_neg (by omega)]
/-- what the cells of a row are that holds these numbers. -/
theorem row_cell {w : World} {g : Nat} {cur : Array Value} {xs : List Int} {n : Nat} (hg : w.heap[g]? = some (.cells cur 3 (0, 0))) (hl : xs.length = n) (ht : cur.toList.take n = intV xs) {j : Nat} (hj : j < n) : w.cell? ⟨g, j, none⟩ = some (.int .i64 (xs.getD j 0)) := by
  have h1 : cur.toList[j]? = (intV xs)[j]? := by rw [← ht, List.getElem?_take_of_lt hj]
  rw [cell_of_row w g j _ _ _ hg, ← Array.getElem?_toList, h1, intV_get xs j (by omega)]
theorem take_of {cur : List Value} {xs : List Int} {n i : Nat} (ht : cur.take n = intV xs) (hi : i ≤ n) : cur.take i = intV (xs.take i) := by
  rw [show cur.take i = (cur.take n).take i by rw [List.take_take, Nat.min_eq_left hi], ht]
  simp [intV]
def InsP (base i n : Nat) (A : Option Addr) (xs : List Int) (y : Int) (w : World) (e : Ending) (w' : World) : Prop := ∃ A1 c1, e = .returned (.slice A1 (n + 1) c1) ∧ OwnI w' base A1 (n + 1) c1 (xs.take i ++ [y] ++ xs.drop i) ∧ w.grownBy w' (A.map (·.block))
/-! ### With -/
end Go.Proofs.Ytdjenakmdjiknaa
end

/-! Layer 8, the program's own: slices.Clone, Delete and Insert at slices of numbers. -/
section
namespace Go.Proofs.Ytdjenakmdjiknaa
open Go.ChangeShapes Go.WideShapes Go.ChangeAt Go.RowKit
set_option linter.unusedVariables false
set_option maxRecDepth 100000

theorem size_ints8 (w : World) : (sizeOf (Try.prog.elem 22)).run Try.prog w = .ok 1 w := by kernel_rfl
theorem cut_h8 (g o n c k : Nat) (hk : k ≤ c) (w : World) : (Instr.slice 22 (.slice (some ⟨g, o, none⟩) n c) none (some (.int .i64 (k : Int))) none).run Try.prog w = .ok (.slice (some ⟨g, o, none⟩) k c) w := by
  rw [run_slice_h (P := Try.prog) (w := w) (t := 22) (ht := Try.underlying22) (kh := .i64) (h := (k : Int)) (h0 := by omega) (h2 := by omega), size_ints8]
  simp [Result.andThen, sliced, Addr.add]
theorem cut_l8 (g n c k : Nat) (hk : k ≤ n) (w : World) : (Instr.slice 22 (.slice (some ⟨g, 0, none⟩) n c) (some (.int .i64 (k : Int))) none none).run Try.prog w = .ok (.slice (some ⟨g, if c = k then 0 else k, none⟩) (n - k) (c - k)) w := by
  rw [run_slice_l (P := Try.prog) (w := w) (t := 22) (ht := Try.underlying22) (kl := .i64) (l := (k : Int)) (h0 := by omega) (h1 := by omega), size_ints8]
  by_cases h : c = k
  · simp [Result.andThen, sliced, h]
  · simp [Result.andThen, sliced, Addr.add, h] <;> omega
theorem cut_lh8 (g n c k l : Nat) (hk : k ≤ l) (hl : l ≤ c) (hc : k < c) (w : World) : (Instr.slice 22 (.slice (some ⟨g, 0, none⟩) n c) (some (.int .i64 (k : Int))) (some (.int .i64 (l : Int))) none).run Try.prog w = .ok (.slice (some ⟨g, k, none⟩) (l - k) (c - k)) w := by
  rw [run_slice_lh (P := Try.prog) (w := w) (t := 22) (ht := Try.underlying22) (kl := .i64) (kh := .i64) (l := (k : Int)) (h := (l : Int)) (h0 := by omega) (h1 := by omega) (h2 := by omega), size_ints8]
  have h : ¬ c = k := by omega
  simp [Result.andThen, sliced, Addr.add, h] <;> omega
theorem cut_lhm8 (A : Option Addr) (n c : Nat) (l h m : Int) (h0 : 0 ≤ l) (h1 : l ≤ h) (h2 : h ≤ m) (h3 : m ≤ c) : ∃ v, ∀ w : World, (Instr.slice 22 (.slice A n c) (some (.int .i64 l)) (some (.int .i64 h)) (some (.int .i64 m))).run Try.prog w = .ok v w := by
  refine ⟨sliced A l.toNat h.toNat m.toNat 1, fun w => ?_⟩
  rw [run_slice_lhm (P := Try.prog) (w := w) (t := 22) (ht := Try.underlying22) (kl := .i64) (kh := .i64) (km := .i64) (l := l) (h := h) (m := m) (h0 := h0) (h1 := h1) (h2 := h2) (h3 := h3), size_ints8]
  rfl
/-! ### Clone -/
theorem nil_ints8 (A : Option Addr) (n c : Nat) (w : World) : (binOp .eql 22 (.slice A n c) (.slice none 0 0)).run Try.prog w = .ok (.bool A.isNone) w :=
  Lib.run_eql_slice_nil w 22 3 A n c 0 0 Try.underlying22
set_option maxHeartbeats 1000000 in
theorem own8_clone (A : Option Addr) (n c : Nat) (s : List Int) (w : World) (h : NumsF w A n c s) (hn : n ≤ 1048576) :
    Calls Try.prog 59 #[.slice A n c] w (GaveInts s w) := by
  cases A with
  | none =>
    have hc := h.2.2 rfl
    have hn0 : n = 0 := by have := h.2.1; omega
    subst hc
    subst hn0
    have hs : s = [] := List.eq_nil_of_length_eq_zero h.len
    subst hs
    clear h
    have hb := fun w' => nil_ints8 none 0 0 w'
    simp only [Option.isNone_none] at hb
    go_enter Try.func59, Try.ntmps59
    go_wp2_with fail
    go_ret
    exact ⟨none, 0, rfl, OwnI.nil _ _, grown_refl _ _⟩
  | some a =>
    have hnum := h.1.grow (World.grownBy_alloc w (.cells #[] 3) none)
    obtain ⟨A1, c1, w1, hrun, ho, hg⟩ := run_append_shape (u := 22) (ys := s) (c' := c) Try.underlying22 (ints_empty (heap_alloc_new w (.cells #[] 3)) (Nat.le_refl _)) hnum (fun e => by cases e) (by simp) (by omega) 22
    have HO := Lib.hid ho
    have HG := Lib.hid (grown_join (World.grownBy_alloc w (.cells #[] 3) none) hg (.inr fun b hb => by simp at hb; omega))
    have hl := h.len
    rw [Nat.zero_add] at hrun
    clear h hnum ho hg
    have hb := fun w' => nil_ints8 (some a) n c w'
    simp only [Option.isNone_some] at hb
    go_enter Try.func59, Try.ntmps59
    go_wp2_with (at_builtin; refine Lib.wpList_append_run _ rfl (.tmp 5) (.tmp 6) 22 22 rfl _ _ rfl rfl _ _ hrun ?_)
    go_ret
    exact GaveInts.of (List.nil_append s) hl (ints_as (Nat.zero_add n) rfl HO.out) HG.out
/-! ### Delete -/
theorem run_append_ints8 {w : World} {base n c m c' B : Nat} {A A' : Option Addr} {xs ys : List Int} (hown : OwnI w base A n c xs) (hsrc : Nums w B A' m ys) (hnone : A' = none → m = 0 ∧ c' = 0) (hb : base ≤ w.heap.size) (hle : n + m ≤ 4194304) (ty : TypeId) :
    ∃ A1 c1 w1, (Builtin.append_ #[22, 22] ty #[.slice A n c, .slice A' m c']).run Try.prog w = .ok (.slice A1 (n + m) c1) w1 ∧ OwnI w1 base A1 (n + m) c1 (xs ++ ys) ∧ w.grownBy w1 (A.map (·.block)) ∧ (A1.map (·.block) = A.map (·.block) ∨ A1.map (·.block) = some w.heap.size) := by
  obtain ⟨i0, hi, hz0, hz1, hz2⟩ := info_parts info_int
  cases A' with
  | none =>
    obtain ⟨rfl, rfl⟩ := hnone rfl
    have hrun := run_append_owned_none (P := Try.prog) (w := w) base 22 ty 3 i0 1 Try.underlying22 hi _ n _ hown.2
    have hy : ys = [] := List.eq_nil_of_length_eq_zero hsrc.1
    subst hy
    rw [Nat.add_zero, List.append_nil]
    exact ⟨A, c, w, hrun, hown, grown_refl _ _, .inl rfl⟩
  | some ad =>
    have hnews : ∀ j u, (intV ys)[j]? = some u → w.cell? (ad.add j) = some u := by
      intro j u hu
      have hj : j < ys.length := by rw [← intV_length]; exact (List.getElem?_eq_some_iff.1 hu).1
      obtain ⟨b, o, e, _, hc⟩ := hsrc.2 (by have := hsrc.1; omega)
      injection e with e
      subst e
      rw [Addr.add_lit, hc j (by have := hsrc.1; omega), ← intV_get ys j hj, hu]
    obtain ⟨v', w', hr, h2, h3, h4, h5⟩ := run_append_own_at (P := Try.prog) (w := w) base 22 ty 3 i0 _ 1 8 Try.underlying22 hi hz0 hz1 hz2 rfl (by omega) _ n _ hown.2 ad m c' (intV ys) (by rw [intV_length, hsrc.1]; omega) hnews (intV_one _) (by simp only [maxLen]; omega) (by omega) hb
    obtain ⟨A1, c1, rfl⟩ := own_slice1 h2
    rw [map_own] at h3
    rw [map_own, map_own] at h5
    refine ⟨A1, c1, w', hr, ⟨by rw [List.length_append, hown.1, hsrc.1], ?_⟩, h3, h5⟩
    have e : intV (xs ++ ys) = intV xs ++ intV ys := by simp [intV]
    rw [e]
    exact h2
def InsP8 (base i n : Nat) (A : Option Addr) (xs : List Int) (y : Int) (w : World) (e : Ending) (w' : World) : Prop := ∃ A1 c1, e = .returned (.slice A1 (n + 1) c1) ∧ OwnI w' base A1 (n + 1) c1 (xs.take i ++ [y] ++ xs.drop i) ∧ w.grownBy w' (A.map (·.block)) ∧ (A1.map (·.block) = A.map (·.block) ∨ ∃ g, A1.map (·.block) = some g ∧ w.heap.size ≤ g)
theorem cut_some8 (A : Option Addr) (n c : Nat) (l : Int) (h0 : 0 ≤ l) (h1 : l ≤ n) : ∃ v, ∀ w : World, (Instr.slice 22 (.slice A n c) (some (.int .i64 l)) none none).run Try.prog w = .ok v w := by
  refine ⟨sliced A l.toNat n c 1, fun w => ?_⟩
  rw [run_slice_l (P := Try.prog) (w := w) (t := 22) (ht := Try.underlying22) (kl := .i64) (l := l) (h0 := h0) (h1 := h1), size_ints8]
  rfl
theorem cut_l28 (g n c k : Nat) (hk : k ≤ n) (hc : k < c) (w : World) : (Instr.slice 22 (.slice (some ⟨g, 0, none⟩) n c) (some (.int .i64 (k : Int))) none none).run Try.prog w = .ok (.slice (some ⟨g, k, none⟩) (n - k) (c - k)) w := by
  rw [cut_l8 g n c k hk, if_neg (by omega)]
end Go.Proofs.Ytdjenakmdjiknaa
end

/-! Layer 7, the program's own: Permute, Join. -/
section
namespace Go.Proofs.Ytdjenakmdjiknaa
open Go.ChangeShapes Go.WideShapes Go.ChangeAt Go.RowKit
set_option linter.unusedVariables false
set_option maxRecDepth 100000

theorem make_shape (m : Nat) (hm : m ≤ 1048576) : ∃ Z : Array Value, Z.toList = intV (tabI7 m fun _ => 0) ∧ ∀ W : World, (Instr.makeSlice 32 (.int .i64 (m : Int)) (.int .i64 (m : Int))).run Try.prog W = .ok (.slice (some ⟨W.heap.size, 0, none⟩) m m) (W.alloc (.cells Z 3)) := by
  obtain ⟨i0, hi, hz0, hz1, hz2⟩ := info_parts info_int
  refine ⟨madeCells (Value.int .i64 0).cells (m * i0.size), ?_, fun W => ?_⟩
  · rw [hz1]
    apply List.ext_getElem
    · simp [madeCells, intV, tabI7]
    · intro i h1 h2
      simp [madeCells, Nat.mod_one, intV, tabI7, Value.cells]
  · have h := run_make (P := Try.prog) W 32 3 i0 _ Try.underlying32 hi hz0 .i64 .i64 (m : Int) (m : Int) (by omega) (by omega) (by rw [hz2]; omega) (by omega)
    simpa using h
/-- the first k of these, then noughts. -/
def doneE (n : Nat) (f : Nat → Int) (k : Nat) : List Int := tabI7 n fun j => if j < k then f j else 0
theorem done_length (n : Nat) (f : Nat → Int) (k : Nat) : (doneE n f k).length = n := tabI_length7 _ _
theorem done_start (n : Nat) (f : Nat → Int) : tabI7 n (fun _ => 0) = doneE n f 0 := tabI_congr7 fun i _ => (if_neg (by omega)).symm
theorem done_put (n : Nat) (f : Nat → Int) (k : Nat) : (doneE n f k).set k (f k) = doneE n f (k + 1) := by
  unfold doneE
  rw [tabI_set7]
  refine tabI_congr7 fun i hi => ?_
  by_cases e : i = k
  · rw [if_pos e, if_pos (by omega), e]
  · rw [if_neg e]
    by_cases h : i < k
    · rw [if_pos h, if_pos (by omega)]
    · rw [if_neg h, if_neg (by omega)]
theorem done_end (n : Nat) (f : Nat → Int) : doneE n f n = tabI7 n f := tabI_congr7 fun i hi => if_pos hi
theorem perm_tab {s t : List Int} {n : Nat} (hn : t.length = n) (h : permB s t = true) : permL s t = tabI7 n fun j => s.getD (t.getD j 0).toNat 0 := by
  subst hn
  unfold permL
  rw [if_pos h]
  refine ints_eqW (by rw [List.length_map, tabI_length7]) fun i hi => ?_
  rw [List.length_map] at hi
  rw [tabI_get7 _ _ _ hi]
  simp [List.getD, hi]
theorem join_tab {s t : List Int} {n : Nat} (hn : s.length = n) (h : joinB s t = true) : joinL s t = tabI7 n fun j => joinV (s.getD j 0) (t.getD j 0) := by
  subst hn
  unfold joinL
  rw [if_pos h]
  rfl
theorem mem_front {t : List Int} {k : Nat} (hk : k ≤ t.length) (x : Int) : x ∈ t.take k ↔ ∃ j, j < k ∧ t.getD j 0 = x := by
  rw [List.mem_take_iff_getElem]
  constructor
  · rintro ⟨j, hj, rfl⟩
    exact ⟨j, by omega, by simp [List.getD, show j < t.length by omega]⟩
  · rintro ⟨j, hj, rfl⟩
    exact ⟨j, by omega, by simp [List.getD, show j < t.length by omega]⟩
set_option maxHeartbeats 2000000 in
theorem own7_permute (A A' : Option Addr) (n c n' c' : Nat) (s t : List Int) (w : World) (h : NumsF w A n c s) (h' : NumsF w A' n' c' t) (hn : n ≤ 1048576) (hn' : n' ≤ 1048576) :
    Calls Try.prog 61 #[.slice A n c, .slice A' n' c'] w (GaveIntsB (permL s t) (permB s t) w) := by
  have HR := Lib.hid (own7_right A n c _ s w h.1 hn)
  have H := Lib.hid h.1
  have H' := Lib.hid h'.1
  have HC' := Lib.hid h'.2
  have HL := Lib.hid h.len
  have HL' := Lib.hid h'.len
  clear h h'
  have HPN := Lib.hid (show permB s t = false → permL s t = [] from fun hb => by unfold permL; rw [hb]; rfl)
  cases hr : rightS s with
  | false =>
    rw [hr] at HR
    have HNB := Lib.hid (show permB s t = false from perm_not (by rw [hr]; rintro ⟨h, _⟩; cases h))
    have HNL := Lib.hid (HPN.out HNB.out)
    clear hr
    go_enter Try.func61, Try.ntmps61
    go_wp2_with fail
    refine HR.out.mono ?_
    rintro e w1 ⟨rfl, rfl⟩
    go_wp2_with fail
    go_ret2
    exact GaveIntsB.none_ HNL.out HNB.out (grown_refl _ _)
  | true =>
    rw [hr] at HR
    by_cases hnn : n' = n
    · subst hnn
      have d0 : ((n' : Int) != (n' : Int)) = false := by simp
      have HRT := Lib.hid hr
      obtain ⟨Z, hZ, hmk⟩ := make_shape n' hn
      have HW0 := Lib.hid (Whole7.fresh w hZ)
      obtain ⟨F, hF⟩ : ∃ F : Nat → Int, F = fun j => s.getD (t.getD j 0).toNat 0 := ⟨_, rfl⟩
      have HF := Lib.hid (show ∀ j, F j = s.getD (t.getD j 0).toNat 0 from fun j => by rw [hF])
      have HPT := Lib.hid (show permB s t = true → doneE n' F n' = permL s t from fun hb => by rw [done_end, perm_tab HL'.out hb, hF])
      rw [done_start n' F] at HW0
      obtain ⟨g, hg⟩ : ∃ g, g = w.heap.size := ⟨_, rfl⟩
      have HGD := Lib.hid hg
      clear hr hZ hF hg
      go_enter Try.func61, Try.ntmps61
      go_wp2_with fail
      refine HR.out.mono ?_
      rintro e w1 ⟨rfl, rfl⟩
      go_wp2_with fail
      rw [← HGD.out] at HW0 ⊢
      go_loopw [24] (fun i wr => ∃ k : Nat, k ≤ n' ∧ i = .int .i64 k ∧ Whole7 wr g (doneE n' F k) ∧ axesP n' t k ∧ w1.grownBy wr none) (fun i _ => n' - (intOf i).toNat)
      case atStart => exact ⟨0, Nat.zero_le _, rfl, HW0.out, fun i hi => by omega, World.grownBy_alloc _ _ _⟩
      case round =>
        obtain ⟨k, hk, rfl, hW, hq, hg⟩ := hrel
        have HQ := Lib.hid hq
        have HW := Lib.hid hW
        have HG := Lib.hid hg
        clear hW hq
        by_cases hlt : k < n'
        · obtain ⟨A2, c2, hs2, hn2, he2⟩ := nums_head (H'.out.grow hg) HC'.out.1 HC'.out.2 (k := k) (by omega)
          obtain ⟨b', off', rfl, _, hc'⟩ := (H'.out.grow hg).2.at_ hlt
          have HCO := Lib.hid (fun (x : Int) => contains_any A2 k c2 (t.take k) x wr hn2.ints (by omega))
          have HMF := Lib.hid (mem_front (t := t) (k := k) (by rw [HL'.out]; omega))
          have HNM := Lib.hid (fun (x : Int) => own7_named A n' c x wr)
          have HFK := Lib.hid (HF.out k)
          generalize hx : t.getD k 0 = x at *
          have HX := Lib.hid hx
          have HNO : Hid (¬ ((0 ≤ x ∧ x < n') ∧ ¬ x ∈ t.take k) → permB s t = false) := Lib.hid fun hno => perm_not (by
            rintro ⟨_, _, h⟩
            rw [HL.out] at h
            have := h k hlt
            rw [HX.out] at this
            refine hno ⟨this.1, fun hm => ?_⟩
            obtain ⟨j, hj, e⟩ := (HMF.out x).1 hm
            exact this.2 j hj e)
          clear hx he2 hn2
          by_cases hin : 0 ≤ x ∧ x < n'
          · have HN2 := Lib.hid (HNM.out x)
            rw [decide_eq_true hin] at HN2
            by_cases hm : x ∈ t.take k
            · have HC2 := Lib.hid (HCO.out x)
              rw [decide_eq_true hm] at HC2
              have HNB := Lib.hid (HNO.out fun h => h.2 hm)
              have HNL := Lib.hid (HPN.out HNB.out)
              clear hm hin hg
              go_wp2_with fail
              refine HN2.out.mono ?_
              rintro e w2 ⟨rfl, rfl⟩
              go_wp2_with fail
              refine HC2.out.mono ?_
              rintro e w3 ⟨rfl, rfl⟩
              go_wp2_with fail
              go_ret2
              exact GaveIntsB.none_ HNL.out HNB.out HG.out
            · have HC2 := Lib.hid (HCO.out x)
              rw [decide_eq_false hm] at HC2
              have HOK : Hid (axesP n' t (k + 1)) := Lib.hid fun i hi => by
                by_cases e : i = k
                · subst e
                  rw [HX.out]
                  exact ⟨hin, fun j hj e2 => hm ((HMF.out x).2 ⟨j, hj, e2⟩)⟩
                · exact HQ.out i (by omega)
              obtain ⟨a, rfl⟩ : ∃ a : Nat, x = (a : Int) := ⟨x.toNat, by omega⟩
              have han : a < n' := by omega
              obtain ⟨b, off, rfl, _, hcs⟩ := (H.out.grow hg).2.at_ han
              have HPU := Lib.hid (HW.out.put k (F k))
              rw [done_put] at HPU
              have HGP := Lib.hid (grown_put (j := k) HG.out (.inr (show w1.heap.size ≤ g by rw [HGD.out]; exact Nat.le_refl _)) (.int .i64 (F k)))
              have c5 := HW.out.cell (i := k) (by rw [done_length]; exact hlt)
              have f5 := HW.out.free k
              rw [HFK.out] at HPU HGP
              simp only [Int.toNat_natCast] at HPU HGP
              generalize (doneE n' F k).getD k 0 = old at *
              generalize s.getD a 0 = z at *
              clear hm hin hg
              go_wp2_with fail
              refine HN2.out.mono ?_
              rintro e w2 ⟨rfl, rfl⟩
              go_wp2_with fail
              refine HC2.out.mono ?_
              rintro e w3 ⟨rfl, rfl⟩
              go_wp2_with fail
              go_roundw
              case rel => exact ⟨k + 1, by omega, by go_num, HPU.out, HOK.out, HGP.out⟩
              case measure => simp [intOf]; omega
          · have HN2 := Lib.hid (HNM.out x)
            rw [decide_eq_false hin] at HN2
            have HNB := Lib.hid (HNO.out fun h => hin h.1)
            have HNL := Lib.hid (HPN.out HNB.out)
            clear hin hg
            go_wp2_with fail
            refine HN2.out.mono ?_
            rintro e w2 ⟨rfl, rfl⟩
            go_wp2_with fail
            go_ret2
            exact GaveIntsB.none_ HNL.out HNB.out HG.out
        · obtain rfl : k = n' := by omega
          have HYB := Lib.hid (perm_yes (s := s) (t := t) HRT.out (by rw [HL.out, HL'.out]) (by rw [HL.out]; exact HQ.out))
          have HYL := Lib.hid (HPT.out HYB.out)
          clear hg
          go_wp2_with fail
          go_ret2
          exact GaveIntsB.of HYL.out HYB.out.symm (by rw [← HYL.out, done_length]) ((HW.out.own (base := w1.heap.size) (by rw [HGD.out]; exact Nat.le_refl _) (by rw [done_length]; omega)).of_len (done_length _ _ _)) HG.out
    · have d0 : ((n' : Int) != (n : Int)) = true := by simp; omega
      have HNB := Lib.hid (show permB s t = false from perm_not (by rintro ⟨_, h, _⟩; rw [HL.out, HL'.out] at h; exact hnn h))
      have HNL := Lib.hid (HPN.out HNB.out)
      clear hnn hr
      go_enter Try.func61, Try.ntmps61
      go_wp2_with fail
      refine HR.out.mono ?_
      rintro e w1 ⟨rfl, rfl⟩
      go_wp2_with fail
      go_ret2
      exact GaveIntsB.none_ HNL.out HNB.out (grown_refl _ _)
end Go.Proofs.Ytdjenakmdjiknaa
end

/-! Layer 8: the reference's Flip. -/
section
namespace Go.Proofs.Ytdjenakmdjiknaa
open Go.ChangeShapes Go.WideShapes Go.ChangeAt Go.RowKit
set_option linter.unusedVariables false
set_option maxRecDepth 100000

theorem box_three {w : World} {b g : Nat} {T : TypeId} {a : Array Value} (h : Box w b T a) (hne : b ≠ g) (u v s : Value) : Box (((w.setCell ⟨g, 0, none⟩ u).setCell ⟨g, 1, none⟩ v).setCell ⟨g, 2, none⟩ s) b T a :=
  h.grown (row := some g) (grown_put (grown_put (grown_put (grown_refl w (some g)) (.inl rfl) u) (.inl rfl) v) (.inl rfl) s) (fun e => hne (by injection e))
theorem nums_cell {w : World} {b off n c k : Nat} {s : List Int} (h : NumsF w (some ⟨b, off, none⟩) n c s) (hk : k < n) : w.cell? ⟨b, off + k, none⟩ = some (.int .i64 (s.getD k 0)) := by
  obtain ⟨b2, off2, e, _, hc⟩ := h.1.2.at_ hk
  injection e with e
  injection e with e1 e2
  subst e1; subst e2
  exact hc
/-- the five cells that a call on an axis of a view loads. -/
theorem cells8 {w : World} {g : Nat} {T : TypeId} {b off n c b' off' n' c' k : Nat} {s t : List Int} {o u z : Int} (hb : Box w g T #[.slice (some ⟨b, off, none⟩) n c, .slice (some ⟨b', off', none⟩) n' c', .int .i64 o]) (h : NumsF w (some ⟨b, off, none⟩) n c s) (h' : NumsF w (some ⟨b', off', none⟩) n' c' t) (hk : k < n) (hk' : k < n') (hu : s.getD k 0 = u) (hz : t.getD k 0 = z) :
    w.cell? ⟨g, 0, none⟩ = some (.slice (some ⟨b, off, none⟩) n c) ∧ w.cell? ⟨g, 1, none⟩ = some (.slice (some ⟨b', off', none⟩) n' c') ∧ w.cell? ⟨g, 2, none⟩ = some (.int .i64 o) ∧ w.cell? ⟨b, off + k, none⟩ = some (.int .i64 u) ∧ w.cell? ⟨b', off' + k, none⟩ = some (.int .i64 z) :=
  ⟨by rw [hb.get]; rfl, by rw [hb.get]; rfl, by rw [hb.get]; rfl, by rw [← hu]; exact nums_cell h hk, by rw [← hz]; exact nums_cell h' hk'⟩
end Go.Proofs.Ytdjenakmdjiknaa
end

/-! Layer 8: the reference's Permute. -/
section
namespace Go.Proofs.Ytdjenakmdjiknaa
open Go.ChangeShapes Go.WideShapes Go.ChangeAt Go.RowKit
set_option linter.unusedVariables false
set_option maxRecDepth 100000

theorem front_set {q : List Int} {f : Int → Int} {x n : Nat} (hn : q.length = n) (hx : x < n) : ((q.take x).map f ++ List.replicate (n - x) 0).set x (f (q.getD x 0)) = (q.take (x + 1)).map f ++ List.replicate (n - (x + 1)) 0 := by
  subst hn
  have hl : ((q.take x).map f).length = x := by simp; omega
  rw [List.set_append_right _ _ (by omega), hl, Nat.sub_self, show q.length - x = (q.length - (x + 1)) + 1 by omega, List.replicate_succ, List.set_cons_zero, List.take_succ_eq_append_getElem hx, List.map_append]
  simp [List.getD, hx]
theorem perm_all8 {s q : List Int} (h : permB s q = true) : q.length = s.length ∧ ∀ i, i < s.length → 0 ≤ q.getD i 0 ∧ q.getD i 0 < s.length := by
  unfold permB at h
  simp only [Bool.and_eq_true, decide_eq_true_eq] at h
  exact ⟨h.1.2, fun i hi => (h.2 i hi).1⟩
theorem perm_len8 {s q : List Int} (h : permB s q = true) : (permL s q).length = s.length := by
  unfold permL
  rw [if_pos h, List.length_map]
  exact (perm_all8 h).1
end Go.Proofs.Ytdjenakmdjiknaa
end

/-! Layer 8, the program's own: what a change is, as a value; moved, laid. · Layer 8, the program's own: with. · Layer 8, the program's own: without, turned. -/
section
/-! Layer 8, the program's own: what a change is, as a value; moved, laid. -/
section
namespace Go.Proofs.Ytdjenakmdjiknaa
open Go.ChangeShapes Go.WideShapes Go.ChangeAt Go.RowKit
set_option linter.unusedVariables false
set_option maxRecDepth 100000

def PlainF (f : FuncId) : Prop := ∀ (args : Array Value) (w : World), Sem.run Try.prog (callFunc f args) w = Result.ok (Next.enter f args) w
/-- a view that lies at b, in lists of the call's own from base on, which nothing else holds. -/
structure VIs (w : World) (base b : Nat) (A : Option Addr) (n c : Nat) (A' : Option Addr) (n' c' : Nat) (v : Vw) : Prop where
  box : Box w b 34 #[.slice A n c, .slice A' n' c', .int .i64 v.off]
  sh : OwnI w base A n c v.sh
  st : OwnI w base A' n' c' v.st
  low : base ≤ b
  ne : A.map (·.block) ≠ some b
  ne' : A'.map (·.block) ≠ some b
  apart : A.map (·.block) = none ∨ A.map (·.block) ≠ A'.map (·.block)
def VBox (w : World) (base b : Nat) (v : Vw) : Prop := ∃ A n c A' n' c', VIs w base b A n c A' n' c' v
/-- a change has been made, or could not be made. -/
def Changed (v' : Vw) (ok : Bool) (w : World) (base b : Nat) (e : Ending) (w' : World) : Prop :=
  e = .returned (.bool ok) ∧ (∀ u : World, u.grownBy w none → u.heap.size ≤ base → u.grownBy w' none) ∧ (ok = true → VBox w' base b v')
/-- function f, with what it has caught, makes v' of v in every world grown out of w, if ok; and tells ok. -/
def Does (w : World) (f : FuncId) (cap : Array Value) (v v' : Vw) (ok : Bool) : Prop :=
  ∀ (w1 : World) (base b : Nat), w.grownBy w1 none → w.heap.size ≤ base → VBox w1 base b v → Calls Try.prog f (#[.pointer (some ⟨b, 0, none⟩)] ++ cap) w1 (Changed v' ok w1 base b)
theorem Does.grow {w w' : World} {f : FuncId} {cap : Array Value} {v v' : Vw} {ok : Bool} (h : Does w f cap v v' ok) (hg : w.grownBy w' none) : Does w' f cap v v' ok := fun w1 base b h1 h2 h3 =>
  h w1 base b (grown_join hg h1 (.inr (by simp))) (Nat.le_trans hg.size h2) h3
theorem map_block_some {A : Option Addr} {r g : Nat} (h : A.map (·.block) ≠ some g) (hA : A = some ⟨r, 0, none⟩) : r ≠ g := fun e => h (by rw [hA, e]; rfl)
/-- the three cells of a view's box. -/
theorem box_three_cells {w : World} {b : Nat} {t : TypeId} {x y z : Value} (h : Box w b t #[x, y, z]) : w.cell? ⟨b, 0, none⟩ = some x ∧ w.cell? ⟨b, 1, none⟩ = some y ∧ w.cell? ⟨b, 2, none⟩ = some z ∧ w.frozen? ⟨b, 0, none⟩ = false ∧ w.frozen? ⟨b, 1, none⟩ = false ∧ w.frozen? ⟨b, 2, none⟩ = false :=
  ⟨by rw [h.get]; rfl, by rw [h.get]; rfl, by rw [h.get]; rfl, h.free 0, h.free 1, h.free 2⟩
theorem box_one_cell {w : World} {b : Nat} {t : TypeId} {x : Value} (h : Box w b t #[x]) : w.cell? ⟨b, 0, none⟩ = some x := by rw [h.get]; rfl
/-! ### moved -/
/-! ### laid -/
theorem ne_blocks {A A' : Option Addr} {r r' : Nat} (h : A.map (·.block) = none ∨ A.map (·.block) ≠ A'.map (·.block)) (e : A = some ⟨r, 0, none⟩) (e' : A' = some ⟨r', 0, none⟩) : r ≠ r' := by
  subst e; subst e'
  rcases h with h | h
  · cases h
  · exact fun e => h (by rw [e])
end Go.Proofs.Ytdjenakmdjiknaa
end

/-! Layer 8, the program's own: with. -/
section
namespace Go.Proofs.Ytdjenakmdjiknaa
open Go.ChangeShapes Go.WideShapes Go.ChangeAt Go.RowKit
set_option linter.unusedVariables false
set_option maxRecDepth 100000

theorem own_far8 {w w' : World} {B n c : Nat} {A : Option Addr} {zs : List Int} {row : Option Nat} (h : OwnI w B A n c zs) (hg : w.grownBy w' row) (hne : A.map (·.block) = none ∨ A.map (·.block) ≠ row) : OwnI w' B A n c zs :=
  ⟨h.1, h.2.kept hg (by rw [map_own]; exact hne)⟩
theorem own_low8 {w : World} {B n c g : Nat} {A : Option Addr} {zs : List Int} (h : OwnI w B A n c zs) (hg : A.map (·.block) = some g) : B ≤ g ∧ g < w.heap.size := by
  have := h.2.lt g (by rw [map_own]; exact hg)
  exact this
end Go.Proofs.Ytdjenakmdjiknaa
end

/-! Layer 8, the program's own: without, turned. -/
section
namespace Go.Proofs.Ytdjenakmdjiknaa
open Go.ChangeShapes Go.WideShapes Go.ChangeAt Go.RowKit
set_option linter.unusedVariables false
set_option maxRecDepth 100000

/-! ### turned -/
theorem plain_turned : PlainF 60 := fun args w => by kernel_rfl
def GaveTurned (B : Option Addr) (m d : Nat) (w : World) (e : Ending) (w' : World) : Prop := ∃ p : Nat, e = .returned (.func (.func 60) #[] #[.pointer (some ⟨p, 0, none⟩)]) ∧ Box w' p 22 #[.slice B m d] ∧ w.grownBy w' none
theorem own8_turned (B : Option Addr) (m d : Nat) (w : World) : Calls Try.prog 47 #[.slice B m d] w (GaveTurned B m d w) := by
  go_enter Try.func47, Try.ntmps47
  go_wp2
  go_ret
  exact ⟨w.heap.size, rfl, Box.fresh _ _ _, World.grownBy_alloc _ _ _⟩
set_option maxHeartbeats 2000000 in
theorem does_turned {w : World} {p : Nat} {B : Option Addr} {m d : Nat} {q : List Int} {v : Vw} (hp : Box w p 22 #[.slice B m d]) (hq : NumsF w B m d q) (hm : m ≤ 1048576) (hst : v.st.length = v.sh.length) (hl : v.sh.length ≤ 6) :
    Does w 60 #[.pointer (some ⟨p, 0, none⟩)] v ⟨permL v.sh q, q.map (fun a => v.st.getD a.toNat 0), v.off⟩ (permB v.sh q) := by
  rintro w1 base b hg hlow ⟨A, n, c, A', n', c', hv⟩
  obtain ⟨s, t, o⟩ := v
  dsimp only at hst hl
  have hp1 := hp.grown hg (by simp)
  have hsn : s.length = n := hv.sh.1
  have htn : t.length = n' := hv.st.1
  have HW := Lib.hid (fun w' (hg' : w1.grownBy w' none) => own7_permute A B n c m d s q w' (hv.sh.numsF.grow hg') ((hq.grow hg).grow hg') (by omega) hm)
  have HV := Lib.hid hv
  have HP := Lib.hid hp1
  have HQ1 := Lib.hid (hq.grow hg)
  have HQL := Lib.hid (show q.length = m from hq.len)
  have HQB := Lib.hid (show ∀ x, x < m → ∃ b0 off0, B = some ⟨b0, off0, none⟩ ∧ b0 < base from fun x hx => by
    obtain ⟨b0, off0, e, h1, _⟩ := hq.1.2.at_ hx
    exact ⟨b0, off0, e, by omega⟩)
  obtain ⟨x0, x1, x2, f0, f1, f2⟩ := box_three_cells hv.box
  have y0 := box_one_cell hp1
  have HC := Lib.hid (show ∀ w', w1.grownBy w' none → w'.cell? ⟨b, 0, none⟩ = some (.slice A n c) ∧ w'.cell? ⟨p, 0, none⟩ = some (.slice B m d) from fun w' hg =>
    ⟨(box_three_cells (hv.box.grown hg (by simp))).1, box_one_cell (hp1.grown hg (by simp))⟩)
  have HPB := Lib.hid (show p < base ∧ base ≤ b ∧ b < w1.heap.size from ⟨Nat.lt_of_lt_of_le hp.small hlow, hv.low, hv.box.small⟩)
  have HNN := Lib.hid (show n' = n ∧ n ≤ 6 by omega)
  clear hp hp1 hv hg hlow f0 f1 f2 x1 x2 hst hl hq
  show Calls Try.prog 60 #[.pointer (some ⟨b, 0, none⟩), .pointer (some ⟨p, 0, none⟩)] w1 _
  cases hb : permB s q with
  | false =>
    rw [hb] at HW
    go_enter Try.func60, Try.ntmps60
    go_wp2_with fail
    go_region_held3 (fun w' => w'.cell? ⟨b, 0, none⟩ = some (.slice A n c) ∧ w'.cell? ⟨p, 0, none⟩ = some (.slice B m d)) (first | exact KEEP.out | go_keep) (first
      | (go_at_call 61; refine (HW.out _ (grown_drewN (grown_refl _ _) _)).mono ?_; rintro e w2 ⟨A2, c2, rfl, ho, hg2⟩; have HG2 := Lib.hid (grown_join (grown_drewN (grown_refl w1 none) _) hg2 (.inr (by simp))); have KEEP := Lib.hid (HC.out _ HG2.out); clear ho hg2))
    all_goals
      go_wp2_with fail
      go_ret
      exact ⟨rfl, fun u hu _ => grown_join hu HG2.out (.inr (by simp)), fun h => by cases h⟩
  | true =>
    rw [hb] at HW
    have HPA := Lib.hid (perm_all8 hb)
    have hmn : n = m ∧ n = n' := by have h1 := HPA.out.1; have h2 := HQL.out; have h3 := HNN.out; omega
    obtain ⟨rfl, rfl⟩ := hmn
    clear hb
    go_enter Try.func60, Try.ntmps60
    go_wp2_with fail
    go_region_held3 (fun w' => w'.cell? ⟨b, 0, none⟩ = some (.slice A n c) ∧ w'.cell? ⟨p, 0, none⟩ = some (.slice B n d)) (first | exact KEEP.out | go_keep) (first
      | (go_at_call 61; refine (HW.out _ (grown_drewN (grown_refl _ _) _)).mono ?_; rintro e w2 ⟨A2, c2, rfl, ho, hg2⟩; have HG2 := Lib.hid (grown_join (grown_drewN (grown_refl w1 none) _) hg2 (.inr (by simp))); have KEEP := Lib.hid (HC.out _ HG2.out); have HO2 : Hid (OwnI w2 w1.heap.size A2 (permL s q).length c2 (permL s q)) := Lib.hid ho; clear ho hg2))
    all_goals
      generalize hzs : permL s q = zs at *
      generalize hmm : zs.length = mm at *
      have hX2 := HV.out.box.grown HG2.out (by simp)
      have hP2 := HP.out.grown HG2.out (by simp)
      have HX2 := Lib.hid hX2
      have HP2 := Lib.hid hP2
      have y0' := box_one_cell hP2
      have HSZ := Lib.hid HG2.out.size
      clear KEEP x0 y0 hX2 hP2
      obtain ⟨Z, hmk, hZ⟩ := ints_zeros w2 n (by have := HNN.out; omega)
      have HZ := Lib.hid hZ
      clear hZ
      go_upto_region 5 with fail
      have y0'' := box_one_cell (HP2.out.grown (World.grownBy_alloc w2 (.cells Z 3) none) (by simp))
      go_wp2_with fail
      go_loopw [25] (fun i wr => ∃ x : Nat, x ≤ n ∧ i = .int .i64 x ∧ OwnI wr w2.heap.size (some ⟨w2.heap.size, 0, none⟩) n n ((q.take x).map (fun a : Int => t.getD a.toNat 0) ++ List.replicate (n - x) 0) ∧ w2.grownBy wr none) (fun i _ => n - (intOf i).toNat)
      case atStart => exact ⟨0, Nat.zero_le _, rfl, by simpa using HZ.out w2 _ (Nat.le_refl _), World.grownBy_alloc _ _ _⟩
      case round =>
        obtain ⟨x, hx, rfl, ho, hg⟩ := hrel
        have HOX := Lib.hid ho
        have HG := Lib.hid hg
        have HXW := Lib.hid (HX2.out.grown hg (by simp))
        have HG1W := Lib.hid (grown_join HG2.out hg (.inr (by simp)))
        clear ho hg y0' y0''
        by_cases hlt : x < n
        · obtain ⟨b0, off0, rfl, _, hc0⟩ := (HQ1.out.grow HG1W.out).1.2.at_ hlt
          have hbq := HPA.out.2 x (by rw [hsn]; exact hlt)
          have HFS := Lib.hid (front_set (q := q) (f := fun a : Int => t.getD a.toNat 0) (x := x) (n := n) HQL.out hlt)
          generalize hqa : q.getD x 0 = a at *
          obtain ⟨y, rfl⟩ : ∃ y : Nat, a = (y : Int) := ⟨a.toNat, by omega⟩
          have hy : y < n := by omega
          obtain ⟨r', rfl, _, hc', _⟩ := (HV.out.st.grow HG1W.out).at_ hy
          obtain ⟨r, hre, _, k0, k1⟩ := HOX.out.at_ hlt
          injection hre with hre
          injection hre with hre
          subst hre
          have HFS2 : Hid (_ = _) := Lib.hid (show ((q.take x).map (fun a : Int => t.getD a.toNat 0) ++ List.replicate (n - x) 0).set x (t.getD y 0) = _ from HFS.out)
          have HPU := Lib.hid (HOX.out.put x (t.getD y 0))
          have HGP := Lib.hid (grown_put (j := x) HG.out (.inr (Nat.le_refl _)) (.int .i64 (t.getD y 0)))
          rw [HFS2.out] at HPU
          generalize t.getD y 0 = z at *
          have x1 := (box_three_cells HXW.out).2.1
          have d1 : decide ((y : Int) < 0) = false := by simp
          have d2 : decide ((n : Int) ≤ (y : Int)) = false := decide_eq_false (by omega)
          have d3 : decide (n ≤ y) = false := decide_eq_false (by omega)
          clear hqa hbq
          go_wp2_with fail
          go_roundw
          case rel => exact ⟨x + 1, by omega, by go_num, HPU.out, HGP.out⟩
          case measure => simp [intOf]; omega
        · obtain rfl : x = n := by omega
          have HOL : Hid (OwnI wr w2.heap.size (some ⟨w2.heap.size, 0, none⟩) x x (q.map (fun a : Int => t.getD a.toNat 0))) := Lib.hid (by
            have h1 := HOX.out
            rw [Nat.sub_self, List.replicate_zero, List.append_nil, List.take_of_length_le (by rw [HQL.out]; exact Nat.le_refl _)] at h1
            exact h1)
          have HFIN : Hid (Changed ⟨zs, q.map (fun a : Int => t.getD a.toNat 0), o⟩ true w1 base b (.returned (.bool true)) ((wr.setCell ⟨b, 0, none⟩ (.slice A2 mm c2)).setCell ⟨b, 1, none⟩ (.slice (some ⟨w2.heap.size, 0, none⟩) x x))) := Lib.hid (by
            have hpb := HPB.out
            have hsz := HSZ.out
            have ho2 : OwnI w2 w1.heap.size A2 mm c2 zs := HO2.out
            have hA2 : ∀ g, A2.map (·.block) = some g → w1.heap.size ≤ g ∧ g < w2.heap.size := fun g hg => own_low8 ho2 hg
            refine ⟨rfl, fun u hu hul => ?_, fun _ => ⟨A2, mm, c2, some ⟨w2.heap.size, 0, none⟩, x, x, ?_⟩⟩
            · have h2 : u.grownBy wr none := grown_join hu HG1W.out (.inr (by simp))
              exact grown_put (grown_put h2 (.inr (by omega)) _) (.inr (by omega)) _
            · have hne2 : A2.map (·.block) ≠ some b := fun e => by have := hA2 b e; omega
              have hne4 : (some (⟨w2.heap.size, 0, none⟩ : Addr)).map (·.block) ≠ some b := fun e => by injection e with e; have e' : w2.heap.size = b := e; omega
              refine ⟨(HXW.out.put 0 _).put 1 _, own_put_other (own_put_other ((ho2.grow HG.out).lower (by omega)) hne2 _) hne2 _, own_put_other (own_put_other (HOL.out.lower (by omega)) hne4 _) hne4 _, hpb.2.1, hne2, hne4, ?_⟩
              cases hq : A2.map (·.block) with
              | none => exact .inl rfl
              | some g =>
                refine .inr fun e => ?_
                have h1 := hA2 g hq
                injection e with e
                have e' : g = w2.heap.size := e
                omega)
          obtain ⟨q0, q1, q2, g0, g1, g2⟩ := box_three_cells HXW.out
          go_wp2_with fail
          go_ret
          rw [hzs]
          exact HFIN.out
end Go.Proofs.Ytdjenakmdjiknaa
end
end
