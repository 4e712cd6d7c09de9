/-
  Texts of this claim, one behind the other.
-/
import Derived.Shelf.Abstract
import Derived.Shelf.RegionOpen
import Derived.OwnWalkIn
import Derived.TacticsInMore
import Derived.LoopNIn
import Derived.LoopIn
import Derived.RangeFuncWrites
import Derived.Deep.DeepCutAuto
import Derived.Deep.RegionHeld3
import Derived.Sort.QuietIn
import Derived.Sort.BigQuietIn
import Derived.Test.YtdjenakmdjiknaaPack1
import Derived.Test.YtdjenakmdjiknaaPack2
import Derived.Test.YtdjenakmdjiknaaPack3
import Derived.Test.YtdjenakmdjiknaaPack4

/-! Layer 9: knows. -/
section
namespace Go.Proofs.Ytdjenakmdjiknaa
open Go.ChangeShapes Go.WideShapes Go.ChangeAt Go.RowKit
set_option linter.unusedVariables false
set_option maxRecDepth 100000

theorem vw_eq9 {p : Vw × Bool} {s t : List Int} {o : Int} {b : Bool} (h : p.1.sh = s ∧ p.1.st = t ∧ p.1.off = o ∧ p.2 = b) : p = (⟨s, t, o⟩, b) := by
  obtain ⟨⟨s', t', o'⟩, b'⟩ := p
  obtain ⟨rfl, rfl, rfl, rfl⟩ := h
  rfl
theorem k9new : newV [2, 2] = (⟨[2, 2], [2, 1], 0⟩, true) := vw_eq9 (by decide)
theorem k9perm : permV ⟨[2, 2], [2, 1], 0⟩ [1, 0] = (⟨[2, 2], [1, 2], 0⟩, true) := vw_eq9 (by decide)
theorem k9col : colL ⟨[2, 2], [1, 2], 0⟩ = [0, 2, 1, 3] := by decide +kernel
theorem lit_numsF9 (w : World) (zs : List Int) (hz : zs.length ≤ 1048576) : NumsF (w.alloc (.cells (intV zs).toArray 3)) (some ⟨w.heap.size, 0, none⟩) zs.length zs.length zs := by
  refine ⟨⟨rfl, ?_⟩, Nat.le_refl _, fun h => by cases h⟩
  intro h
  refine ⟨w.heap.size, 0, rfl, by simp, fun k hk => ?_⟩
  rw [cell_of_row _ _ _ _ _ _ (heap_alloc_new w _)]
  simp [intV, List.getD, hk]
set_option maxHeartbeats 4000000 in
theorem knows9_any {T : World → Nat → Addr → Vw → Nat → Bool → Prop} (V : ViewSays9) (S : OdoSays T) (w : World) : Calls Try.prog 7 #[] w (TellG (.bool true) w) := by
  have HV := Lib.hid V
  have HS := Lib.hid S
  obtain ⟨w1, hw1⟩ : ∃ w1, w1 = w.alloc (.cells #[.int .i64 2, .int .i64 2] 3) := ⟨_, rfl⟩
  have HN1 := Lib.hid (show NumsF w1 (some ⟨w.heap.size, 0, none⟩) 2 2 [2, 2] by rw [hw1]; exact lit_numsF9 w [2, 2] (by simp))
  have HG1 := Lib.hid (show w.grownBy w1 none by rw [hw1]; exact World.grownBy_alloc w _ none)
  have HW1 := Lib.hid hw1
  clear hw1
  go_enter Try.func7, Try.ntmps7
  go_wp2_with fail
  rw [← HW1.out]
  refine (HV.out.new _ _ _ [2, 2] w1 HN1.out (by omega)).mono ?_
  rintro e w2 ⟨A, n, c, A', n', c', rfl, h, h', hg⟩
  rw [k9new] at h h' ⊢
  dsimp only at h h' ⊢
  obtain rfl : n = 2 := h.len.symm
  obtain rfl : n' = 2 := h'.len.symm
  have HF2 := Lib.hid (show ViewF w2 A 2 c A' 2 c' ⟨[2, 2], [2, 1], 0⟩ from ⟨h, h', by omega, by omega⟩)
  have HG2 := Lib.hid (grown_join HG1.out hg (.inr (by simp)))
  clear h h' hg
  go_upto_region 2 with fail
  obtain ⟨w3, hw3⟩ : ∃ w3, w3 = w2.alloc (.cells #[.slice A 2 c, .slice A' 2 c', .int .i64 0] 34) := ⟨_, rfl⟩
  rw [← hw3]
  have HX3 : Hid (Box w3 w2.heap.size 34 #[.slice A 2 c, .slice A' 2 c', .int .i64 0]) := Lib.hid (by rw [hw3]; exact Box.fresh w2 _ _)
  have hg23 : w2.grownBy w3 none := by rw [hw3]; exact World.grownBy_alloc w2 _ none
  have HG3 := Lib.hid (grown_join HG2.out hg23 (.inr (by simp)))
  have HF3 := Lib.hid (HF2.out.grow hg23)
  clear hw3 hg23
  obtain ⟨w4, hw4⟩ : ∃ w4, w4 = w3.alloc (.cells #[.int .i64 1, .int .i64 0] 3) := ⟨_, rfl⟩
  have HN4 := Lib.hid (show NumsF w4 (some ⟨w3.heap.size, 0, none⟩) 2 2 [1, 0] by rw [hw4]; exact lit_numsF9 w3 [1, 0] (by simp))
  have hg34 : w3.grownBy w4 none := by rw [hw4]; exact World.grownBy_alloc w3 _ none
  have HG4 := Lib.hid (grown_join HG3.out hg34 (.inr (by simp)))
  have HF4 := Lib.hid (HF3.out.grow hg34)
  have HW4 := Lib.hid hw4
  clear hw4 hg34
  have x0 := HX3.out.get 0
  have x1 := HX3.out.get 1
  have x2 := HX3.out.get 2
  go_wp2_with fail
  rw [← HW4.out]
  refine (HV.out.permute _ _ _ _ _ _ ⟨[2, 2], [2, 1], 0⟩ _ _ _ [1, 0] w4 HF4.out ⟨by decide, by decide⟩ HN4.out (by omega) (fun z hz => by simp at hz; rcases hz with rfl | rfl <;> exact ⟨by decide, by decide⟩)).mono ?_
  rintro e w5 ⟨B, n, d, B', n', d', rfl, h, h', hg⟩
  rw [k9perm] at h h' ⊢
  dsimp only at h h' ⊢
  obtain rfl : n = 2 := h.len.symm
  obtain rfl : n' = 2 := h'.len.symm
  have HF5 := Lib.hid (show ViewF w5 B 2 d B' 2 d' ⟨[2, 2], [1, 2], 0⟩ from ⟨h, h', by omega, by omega⟩)
  have HG5 := Lib.hid (grown_join HG4.out hg (.inr (by simp)))
  clear h h' hg x0 x1 x2
  go_upto_region 3 with fail
  obtain ⟨w6, hw6⟩ : ∃ w6, w6 = w5.alloc (.cells #[.slice B 2 d, .slice B' 2 d', .int .i64 0] 34) := ⟨_, rfl⟩
  rw [← hw6]
  have HX6 : Hid (Box w6 w5.heap.size 34 #[.slice B 2 d, .slice B' 2 d', .int .i64 0]) := Lib.hid (by rw [hw6]; exact Box.fresh w5 _ _)
  have hg56 : w5.grownBy w6 none := by rw [hw6]; exact World.grownBy_alloc w5 _ none
  have HG6 := Lib.hid (grown_join HG5.out hg56 (.inr (by simp)))
  have HF6 := Lib.hid (HF5.out.grow hg56)
  clear hw6 hg56
  have x0 := HX6.out.get 0
  have x1 := HX6.out.get 1
  have x2 := HX6.out.get 2
  go_wp2_with fail
  refine (HS.out.collect _ _ _ _ _ _ ⟨[2, 2], [1, 2], 0⟩ w6 HF6.out ⟨by decide, by decide⟩).mono ?_
  rintro e w7 ⟨D, m, f, rfl, h, hg⟩
  rw [k9col] at h
  obtain rfl : m = 4 := h.len.symm
  have HG7 := Lib.hid (grown_join HG6.out hg (.inr (by simp)))
  clear hg x0 x1 x2
  obtain ⟨w8, hw8⟩ : ∃ w8, w8 = w7.alloc (.cells #[.int .i64 0, .int .i64 2, .int .i64 1, .int .i64 3] 3) := ⟨_, rfl⟩
  have HN8 := Lib.hid (show NumsF w8 (some ⟨w7.heap.size, 0, none⟩) 4 4 [0, 2, 1, 3] by rw [hw8]; exact lit_numsF9 w7 [0, 2, 1, 3] (by simp))
  have hg78 : w7.grownBy w8 none := by rw [hw8]; exact World.grownBy_alloc w7 _ none
  have HG8 := Lib.hid (grown_join HG7.out hg78 (.inr (by simp)))
  have HD8 := Lib.hid (h.grow hg78)
  have HW8 := Lib.hid hw8
  clear hw8 hg78 h
  go_wp2_with fail
  rw [← HW8.out]
  refine (ints9_any D _ 4 4 f 4 [0, 2, 1, 3] [0, 2, 1, 3] _ _ w8 HD8.out.1 HN8.out.1 (by omega) (by omega)).mono ?_
  rintro e w9 ⟨rfl, m, rfl⟩
  rw [decide_eq_true rfl]
  go_wp2_with fail
  go_ret
  exact ⟨rfl, grown_drewN HG8.out m⟩
end Go.Proofs.Ytdjenakmdjiknaa
end

/-! Layer 9: a range over a function that yields what lies in memory: what is said of a yielded value holds in the world of its round (R). -/
section
namespace Go.Proofs.Ytdjenakmdjiknaa
open Go.ChangeShapes Go.WideShapes Go.ChangeAt Go.RowKit Go.Shelf
set_option linter.unusedVariables false
set_option maxRecDepth 100000

/-- what is said stands, whatever is written into blocks from B on. -/
def OwnAll {β : Type} (B : Nat) (I : β → World → Prop) : Prop := ∀ s W W' row, I s W → W.grownBy W' row → (∀ r, row = some r → B ≤ r ∧ True) → I s W'
theorem OwnAll.put {β : Type} {B : Nat} {I : β → World → Prop} (h : OwnAll B I) {s : β} {W : World} {l : Nat} (o' : Obj) (hs : I s W) (hB : B ≤ l) : I s (W.putObj l o') :=
  h s W _ (some l) hs (grownBy_putObj' W l o') (fun r e => by cases e; exact ⟨hB, trivial⟩)
theorem OwnAll.alloc {β : Type} {B : Nat} {I : β → World → Prop} (h : OwnAll B I) {s : β} {W : World} (o : Obj) (hs : I s W) : I s (W.alloc o) :=
  h s W _ none hs (World.grownBy_alloc W o none) (fun r e => by cases e)
/-- a function yields these: in each round what R says of the value holds. -/
def SeqTells {α : Type} (n gf : Nat) (lb : Array Value) (encs : α → Array Value) (Kp : World → World → Prop) (R : α → World → Prop) (S Sp : List α → Prop) (N : Nat) (w : World) : Prop :=
  ∀ (l : Nat) (J Jx : List α → World → Prop) (W : World), Below w.heap.size w W → OwnAll W.heap.size J → OwnAll W.heap.size Jx →
    (∀ pre x W1, J pre W1 → R x W1 → pre.length < N → YieldAt Fence.wide (n - 1) Try.prog l (encs x) W1 fun e W' => (e = .returned (.bool true) ∧ J (pre ++ [x]) W' ∧ Kp W1 W' ∧ KeepsFrom W.heap.size W1 W') ∨ (e = .returned (.bool false) ∧ Jx (pre ++ [x]) W' ∧ KeepsFrom W.heap.size W1 W')) →
    J [] W → CallsIn Fence.wide n Try.prog gf (#[.func (.yield l) #[] #[]] ++ lb) W fun e W' => (∃ v, e = .returned v) ∧ ((∃ xs, S xs ∧ J xs W') ∨ ∃ pre, Sp pre ∧ Jx pre W')
/-- what a body leaves: what is no cells, and lies from block B on, is as it was. -/
def ownPostT {α : Type} (B : Nat) (Kp : World → World → Prop) (I : List α → World → Prop) (Ix : Code → List α → World → Prop) (xs : List α) (W : World) : Exit → Act → World → Prop
  | .normal, _, W' => KeepsFrom B W W' ∧ Kp W W' ∧ I xs W'
  | .ret, _, W' => KeepsFrom B W W' ∧ Ix .ret xs W'
  | .exit id, _, W' => KeepsFrom B W W' ∧ Ix (.exit id) xs W'
  | .goto t, _, W' => KeepsFrom B W W' ∧ Ix (.goto t) xs W'
  | .panic _, _, _ => False
  | .outgrown, _, _ => False
theorem postT_of {α : Type} {B : Nat} {Kp : World → World → Prop} {I : List α → World → Prop} {Ix : Code → List α → World → Prop} {xs : List α} {W : World} : ∀ (e : Exit) (a : Act) (W' : World), ownPostK Kp I Ix xs W e a W' → ownPostT B Kp I Ix xs W e a W' := fun e a W' h => by
  cases e with
  | normal => exact ⟨h.1.from _, h.2⟩
  | ret => exact ⟨h.1.from _, h.2⟩
  | exit id => exact ⟨h.1.from _, h.2⟩
  | goto t => exact ⟨h.1.from _, h.2⟩
  | panic ch => exact h.elim
  | outgrown => exact h.elim
/-- the books of a range: the record of the loop at D + 1, its deferred calls at D. -/
structure Booked (D : Nat) (r : Loop) (W : World) : Prop where
  loop : W.heap[D + 1]? = some (.loop r)
  late : W.heap[D]? = some (.deferred (some []))
theorem Booked.small {D : Nat} {r : Loop} {W : World} (h : Booked D r W) : D + 1 < W.heap.size := (Array.getElem?_eq_some_iff.1 h.loop).1
theorem Booked.rows {D : Nat} {r : Loop} {W W' : World} {row : Option Nat} (h : Booked D r W) (hg : W.grownBy W' row) (hr : ∀ z, row = some z → D + 1 < z) : Booked D r W' :=
  ⟨(hg.block _ h.small fun e => by have := hr _ e.symm; omega).trans h.loop, (hg.block _ (by have := h.small; omega) fun e => by have := hr _ e.symm; omega).trans h.late⟩
theorem Booked.turn {D : Nat} {r : Loop} {W : World} (h : Booked D r W) (r' : Loop) : Booked D r' (W.putObj (D + 1) (.loop r')) :=
  ⟨World.putObj_heap_same h.small, (World.putObj_heap_other (by omega)).trans h.late⟩
theorem Booked.others {D : Nat} {r : Loop} {W W' : World} (h : Booked D r W) (hk : KeepsFrom D W W') : Booked D r W' := ⟨hk.same _ _ (by omega) h.loop rfl, hk.same _ _ (Nat.le_refl _) h.late rfl⟩
theorem keeps_less {B B' : Nat} {W W' : World} (h : KeepsFrom B W W') (hB : B ≤ B') : KeepsFrom B' W W' := ⟨h.size, fun k o hk ho hc => h.same k o (by omega) ho hc⟩
theorem keeps_put {B l : Nat} (W : World) (o : Obj) (h : l < B) : KeepsFrom B W (W.putObj l o) := KeepsFrom.of_grownBy (grownBy_putObj' W l o) (fun j e => by injection e with e; omega)
theorem range_told {α : Type} {n : Nat} (h1 : 1 ≤ n) {g : Operand} {ps : Array Tmp} {assign body : Code} {Q : Exit → Act → World → Prop} {a : Act} {w : World} {gf : Nat} {lb : Array Value} (hg : a.eval g = .func (.func gf) #[] lb) (eg : ∀ (args : Array Value) (W : World), (callFunc gf args).run Try.prog W = .ok (.enter gf args) W)
    {encs : α → Array Value} {Kp : World → World → Prop} {R : α → World → Prop} {S Sp : List α → Prop} {N : Nat} (hseq : SeqTells (n - 1) gf lb encs Kp R S Sp N w)
    (hKt : ∀ {A B C : World}, Kp A B → Kp B C → Kp A C) (hKb : ∀ (W : World) (l : Nat) (o o' : Obj), w.heap.size ≤ l → W.heap[l]? = some o → o.isCells = false → o.isWalk = false → Kp W (W.putObj l o'))
    (hR : ∀ (x : α) (W : World) (l : Nat) (o o' : Obj), R x W → W.heap[l]? = some o → o.isCells = false → R x (W.putObj l o')) (hps : ∀ x, (encs x).size = ps.size)
    (I : List α → World → Prop) (Ix : Code → List α → World → Prop) (hI : OwnAll w.heap.size I) (hIx : ∀ c, OwnAll w.heap.size (Ix c)) (h0 : I [] w) (a₁ : α → Act)
    (hassign : ∀ (l : Nat) (x : α) (W : World) (K : Act → World → Prop), K (a₁ x) W → assign.wpIn (Fence.wide.inRound l) (n - 1 - 1) Try.prog (Exit.then K (fun _ _ _ => False)) { tmps := (ps.zip (encs x)).foldl (fun t (p, v) => t.setIfInBounds p v) a.tmps, defers := [] } W)
    (hbody : ∀ (l : Nat) (pre : List α) (x : α) (W : World), I pre W → R x W → pre.length < N → body.wpIn (Fence.wide.inRound l) (n - 1 - 1) Try.prog (ownPostT w.heap.size Kp I Ix (pre ++ [x]) W) (a₁ x) W)
    (hdone : ∀ (D : Nat) (xs : List α) (W : World), w.heap.size ≤ D → S xs → I xs W → W.heap[D]? = some (.deferred (some [])) → Q .normal { a with defers := { target := .collected D, args := #[] } :: a.defers } W)
    (hstop : ∀ (D : Nat) (c : Code) (pre : List α) (W : World), w.heap.size ≤ D → Sp pre → Ix c pre W → W.heap[D]? = some (.deferred (some [])) → c.wpIn Fence.wide n Try.prog Q { a with defers := { target := .collected D, args := #[] } :: a.defers } W) :
    (Code.rangeFunc g ps assign body).wpIn Fence.wide n Try.prog Q a w := by
  refine wpIn_rangeFunc fun fn hfn => ?_
  obtain ⟨D, hD⟩ : ∃ D, D = w.heap.size := ⟨_, rfl⟩
  obtain ⟨rc, hrc⟩ : ∃ rc : LoopState → Option Code → Loop, rc = fun s p => { state := s, pending := p, fn := fn, tmps := a.tmps, params := ps, assign := assign, body := body, defers := D } := ⟨_, rfl⟩
  obtain ⟨V, hV⟩ : ∃ V, V = (w.alloc (.deferred (some []))).alloc (.loop (rc .ready none)) := ⟨_, rfl⟩
  have hgV : w.grownBy V none := by rw [hV]; exact grown_alloc (World.grownBy_alloc w _ none) _
  have hBV : Booked D (rc .ready none) V := by
    constructor
    · have h := World.alloc_heap_new (w.alloc (.deferred (some []))) (.loop (rc .ready none))
      rw [World.size_alloc, ← hD, ← hV] at h
      exact h
    · rw [hV, hD]
      exact (Below.heap_alloc _ _ _ (by simp)).trans (World.alloc_heap_new w _)
  have hIV : I [] V := by rw [hV]; exact hI.alloc _ (hI.alloc _ h0)
  have hVs : V.heap.size = w.heap.size + 2 := by rw [hV]; simp
  -- a turn of the record leaves what the caller says
  have turnI : ∀ {pre W r} (r' : Loop), I pre W → Booked D r W → I pre (W.putObj (D + 1) (.loop r')) := fun r' h hb => hI.put _ h (by omega)
  have turnX : ∀ {c pre W r} (r' : Loop), Ix c pre W → Booked D r W → Ix c pre (W.putObj (D + 1) (.loop r')) := fun r' h hb => (hIx _).put _ h (by omega)
  have far : ∀ {row : Option Nat}, (∀ z, row = some z → V.heap.size ≤ z ∧ True) → (∀ z, row = some z → w.heap.size ≤ z ∧ True) ∧ ∀ z, row = some z → D + 1 < z := fun hr => ⟨fun z e => ⟨by have := (hr z e).1; omega, trivial⟩, fun z e => by have := (hr z e).1; omega⟩
  refine ⟨D + 1, [{ target := .collected D, args := #[] }], V, { target := .fn (.func gf) lb, args := #[.func (.yield (D + 1)) #[] #[]] }, V, gf, #[.func (.yield (D + 1)) #[] #[]] ++ lb, V, ?_, ?_, ?_, ?_, fun _ => h1, ?_⟩
  · rw [hV, hrc, hD]
    exact run_enterLoop_outer _ _ _ _ _
  · simp only [resolve, hg]
    simp [go_sem]
  · intro f' hf'
    exact trivial
  · simp [invoke, go_sem, eg]
  refine (hseq (D + 1) (fun pre W => I pre W ∧ Booked D (rc .ready none) W) (fun pre W => ∃ c, Ix c pre W ∧ Booked D (rc .done (some c)) W) V (below_of_grown hgV)
    (fun s A B row hs hg' hr => ⟨hI s A B row hs.1 hg' (far hr).1, hs.2.rows hg' (far hr).2⟩)
    (fun s A B row hs hg' hr => by
      obtain ⟨c, hc, hb⟩ := hs
      exact ⟨c, hIx c s A B row hc hg' (far hr).1, hb.rows hg' (far hr).2⟩) ?_ ⟨hIV, hBV⟩).mono ?_
  · rintro pre x W ⟨hi, hb⟩ hx hlen
    have hy := run_yield (P := Try.prog) (args := encs x) hb.loop (by rw [hrc]; exact hps x)
    rw [hrc] at hy
    obtain ⟨busy, hbusy⟩ : ∃ busy : Loop, busy = { rc .ready none with state := .busy } := ⟨_, rfl⟩
    have hB := hb.turn busy
    refine ⟨fn, _, assign, body, hy, roundIn_of_wpIn hfn (hassign _ x W _ ⟨W.putObj (D + 1) (.loop busy), ?_, ?_⟩)⟩
    · rw [hbusy]
      exact run_beginRound hb.loop (by rw [hrc])
    have kb : Kp W (W.putObj (D + 1) (.loop busy)) := hKb _ _ _ _ (by omega) hb.loop rfl rfl
    -- the end of a round: the record is ready again, or done
    have ends : ∀ (jump : Option Code) (W3 : World), KeepsFrom D (W.putObj (D + 1) (.loop busy)) W3 → ∃ r3 : Loop, r3 = rc (if jump.isNone then .ready else .done) jump ∧ Booked D busy W3 ∧
        (Instr.endRound (D + 1) jump).run Try.prog W3 = .ok (.bool jump.isNone) (W3.putObj (D + 1) (.loop r3)) := fun jump W3 hk => by
      have h3 := hB.others hk
      refine ⟨_, rfl, h3, ?_⟩
      have h4 := run_endRound (P := Try.prog) jump h3.loop
      rw [hbusy, hrc] at h4
      rw [hrc]
      exact h4
    refine wpIn_mono (hbody _ pre x _ (turnI busy hi hb) (hR x W _ _ _ hx hb.loop rfl) hlen) fun e a3 W3 hp => ?_
    cases e with
    | normal =>
      obtain ⟨hk, hkp, hi3⟩ := hp
      rw [← hD] at hk
      obtain ⟨r3, hr3, hb3, hrun⟩ := ends none W3 hk
      have hkf := ((keeps_put W (.loop busy) (show D + 1 < V.heap.size by omega)).trans (keeps_less hk (by omega))).trans (keeps_put W3 (.loop (rc .ready none)) (show D + 1 < V.heap.size by omega))
      subst hr3
      exact ⟨_, _, hrun, .inl ⟨rfl, ⟨turnI _ hi3 hb3, hb3.turn _⟩, hKt (hKt kb hkp) (hKb _ _ _ _ (by omega) hb3.loop rfl rfl), hkf⟩⟩
    | ret =>
      obtain ⟨hk, hi3⟩ := hp
      rw [← hD] at hk
      obtain ⟨r3, hr3, hb3, hrun⟩ := ends (some .ret) W3 hk
      subst hr3
      have hkf := ((keeps_put W (.loop busy) (show D + 1 < V.heap.size by omega)).trans (keeps_less hk (by omega))).trans (keeps_put W3 (.loop (rc .done (some .ret))) (show D + 1 < V.heap.size by omega))
      exact ⟨_, _, hrun, .inr ⟨rfl, ⟨.ret, turnX _ hi3 hb3, hb3.turn _⟩, hkf⟩⟩
    | exit id =>
      obtain ⟨hk, hi3⟩ := hp
      rw [← hD] at hk
      obtain ⟨r3, hr3, hb3, hrun⟩ := ends (some (.exit id)) W3 hk
      subst hr3
      have hkf := ((keeps_put W (.loop busy) (show D + 1 < V.heap.size by omega)).trans (keeps_less hk (by omega))).trans (keeps_put W3 (.loop (rc .done (some (.exit id)))) (show D + 1 < V.heap.size by omega))
      exact ⟨_, _, hrun, .inr ⟨rfl, ⟨(.exit id), turnX _ hi3 hb3, hb3.turn _⟩, hkf⟩⟩
    | goto t =>
      obtain ⟨hk, hi3⟩ := hp
      rw [← hD] at hk
      obtain ⟨r3, hr3, hb3, hrun⟩ := ends (some (.goto t)) W3 hk
      subst hr3
      have hkf := ((keeps_put W (.loop busy) (show D + 1 < V.heap.size by omega)).trans (keeps_less hk (by omega))).trans (keeps_put W3 (.loop (rc .done (some (.goto t)))) (show D + 1 < V.heap.size by omega))
      exact ⟨_, _, hrun, .inr ⟨rfl, ⟨(.goto t), turnX _ hi3 hb3, hb3.turn _⟩, hkf⟩⟩
    | panic ch => exact hp.elim
    | outgrown => exact hp.elim
  · rintro e W2 ⟨⟨v, rfl⟩, hend⟩
    rcases hend with ⟨xs, hS, hi, hb⟩ | ⟨pre, hSp, c, hi, hb⟩
    · have h2 := run_endLoop (P := Try.prog) hb.loop (by rw [hrc]; simp)
      rw [hrc] at h2
      exact ⟨none, _, h2, hdone D xs _ (by omega) hS (turnI _ hi hb) (hb.turn _).late⟩
    · have h2 := run_endLoop (P := Try.prog) hb.loop (by rw [hrc]; simp)
      rw [hrc] at h2
      exact ⟨some c, _, h2, hstop D c pre _ (by omega) hSp (turnX _ hi hb) (hb.turn _).late⟩
/-- .. where nothing is said of the values. -/
def SeqOwns {α : Type} (n gf : Nat) (lb : Array Value) (encs : α → Array Value) (Kp : World → World → Prop) (S Sp : List α → Prop) (N : Nat) (w : World) : Prop := SeqTells n gf lb encs Kp (fun _ _ => True) S Sp N w
theorem range_own {α : Type} {n : Nat} (h1 : 1 ≤ n) {g : Operand} {ps : Array Tmp} {assign body : Code} {Q : Exit → Act → World → Prop} {a : Act} {w : World} {gf : Nat} {lb : Array Value} (hg : a.eval g = .func (.func gf) #[] lb) (eg : ∀ (args : Array Value) (W : World), (callFunc gf args).run Try.prog W = .ok (.enter gf args) W)
    {encs : α → Array Value} {Kp : World → World → Prop} {S Sp : List α → Prop} {N : Nat} (hseq : SeqOwns (n - 1) gf lb encs Kp S Sp N w)
    (hKt : ∀ {A B C : World}, Kp A B → Kp B C → Kp A C) (hKb : ∀ (W : World) (l : Nat) (o o' : Obj), w.heap.size ≤ l → W.heap[l]? = some o → o.isCells = false → o.isWalk = false → Kp W (W.putObj l o')) (hps : ∀ x, (encs x).size = ps.size)
    (I : List α → World → Prop) (Ix : Code → List α → World → Prop) (hI : OwnAll w.heap.size I) (hIx : ∀ c, OwnAll w.heap.size (Ix c)) (h0 : I [] w) (a₁ : α → Act)
    (hassign : ∀ (l : Nat) (x : α) (W : World) (K : Act → World → Prop), K (a₁ x) W → assign.wpIn (Fence.wide.inRound l) (n - 1 - 1) Try.prog (Exit.then K (fun _ _ _ => False)) { tmps := (ps.zip (encs x)).foldl (fun t (p, v) => t.setIfInBounds p v) a.tmps, defers := [] } W)
    (hbody : ∀ (l : Nat) (pre : List α) (x : α) (W : World), I pre W → pre.length < N → body.wpIn (Fence.wide.inRound l) (n - 1 - 1) Try.prog (ownPostK Kp I Ix (pre ++ [x]) W) (a₁ x) W)
    (hdone : ∀ (D : Nat) (xs : List α) (W : World), w.heap.size ≤ D → S xs → I xs W → W.heap[D]? = some (.deferred (some [])) → Q .normal { a with defers := { target := .collected D, args := #[] } :: a.defers } W)
    (hstop : ∀ (D : Nat) (c : Code) (pre : List α) (W : World), w.heap.size ≤ D → Sp pre → Ix c pre W → W.heap[D]? = some (.deferred (some [])) → c.wpIn Fence.wide n Try.prog Q { a with defers := { target := .collected D, args := #[] } :: a.defers } W) :
    (Code.rangeFunc g ps assign body).wpIn Fence.wide n Try.prog Q a w :=
  range_told h1 hg eg hseq hKt hKb (fun _ _ _ _ _ _ _ _ => trivial) hps I Ix hI hIx h0 a₁ hassign (fun l pre x W hi _ hlt => wpIn_mono (hbody l pre x W hi hlt) postT_of) hdone hstop
end Go.Proofs.Ytdjenakmdjiknaa
end

/-! Layer 9: functions that yield, as values: what is asked of Offsets and Pairs, whatever the body of a range turns in blocks X of its caller's. -/
section
namespace Go.Proofs.Ytdjenakmdjiknaa
open Go.ChangeShapes Go.WideShapes Go.ChangeAt Go.RowKit Go.Shelf
set_option linter.unusedVariables false
set_option maxRecDepth 100000

/-- cells, and walks over maps, outside X stay as they are. -/
def KeepX (X : Nat → Prop) (A C : World) : Prop := A.heap.size ≤ C.heap.size ∧ ∀ (x : Nat) (o : Obj), A.heap[x]? = some o → ¬ X x → (o.isCells = true ∨ o.isWalk = true) → C.heap[x]? = some o
theorem keepX_t {X : Nat → Prop} {A B C : World} (h : KeepX X A B) (k : KeepX X B C) : KeepX X A C := ⟨Nat.le_trans h.1 k.1, fun x o hx hn ho => k.2 x o (h.2 x o hx hn ho) hn ho⟩
theorem keepX_b {X : Nat → Prop} {w : World} (W : World) (l : Nat) (o o' : Obj) (_ : w.heap.size ≤ l) (h : W.heap[l]? = some o) (hc : o.isCells = false) (hw : o.isWalk = false) : KeepX X W (W.putObj l o') := by
  have hg := grownBy_putObj' W l o'
  refine ⟨hg.size, fun x o1 hx hn ho => ?_⟩
  by_cases e : x = l
  · subst e
    rw [h] at hx
    injection hx with hx
    subst hx
    rcases ho with ho | ho
    · rw [hc] at ho; cases ho
    · rw [hw] at ho; cases ho
  · exact (hg.block x (Array.getElem?_eq_some_iff.1 hx).1 (fun e2 => e (by injection e2))).trans hx
theorem keepX_refl (X : Nat → Prop) (A : World) : KeepX X A A := ⟨Nat.le_refl _, fun _ _ h _ _ => h⟩
theorem keepX_put {X : Nat → Prop} {A B : World} (h : KeepX X A B) {b j : Nat} (hb : X b) (u : Value) : KeepX X A (B.setCell ⟨b, j, none⟩ u) := by
  refine ⟨by simp [World.setCell]; exact h.1, fun x o hx hn ho => ?_⟩
  have hne : b ≠ x := fun e => hn (e ▸ hb)
  have h1 := h.2 x o hx hn ho
  simp [World.setCell, Array.getElem?_modify, hne]
  exact h1
theorem keepX_grown {X : Nat → Prop} {A B : World} (h : A.grownBy B none) : KeepX X A B := ⟨h.size, fun x o hx _ _ => (h.block x (Array.getElem?_eq_some_iff.1 hx).1 (by simp)).trans hx⟩
/-- a function value is told that yields these, one by one, in every world grown out of it. Away: where the body may write. -/
def SeqIs {α : Type} (encs : α → Array Value) (xs : List α) (Away : Nat → Prop) (w : World) (e : Ending) (w' : World) : Prop :=
  w.grownBy w' none ∧ ∃ (gf : Nat) (lb : Array Value), e = .returned (.func (.func gf) #[] lb) ∧ (∀ (args : Array Value) (W : World), (callFunc gf args).run Try.prog W = .ok (.enter gf args) W) ∧
    ∀ (n : Nat) (W : World) (X : Nat → Prop), 6 ≤ n → w'.grownBy W none → (∀ x, X x → x < w.heap.size ∧ Away x) → SeqOwns n gf lb encs (KeepX X) (fun ys => ys = xs) (fun pre => ∃ k, k ≤ xs.length ∧ pre = xs.take k) xs.length W
/-- the blocks of a view's lists. -/
def Clear (A : Option Addr) (n : Nat) (A' : Option Addr) (n' x : Nat) : Prop := (0 < n → A.map (·.block) ≠ some x) ∧ (0 < n' → A'.map (·.block) ≠ some x)
def enc1 (z : Int) : Array Value := #[.int .i64 z]
def enc2 (z : Int × Int) : Array Value := #[.int .i64 z.1, .int .i64 z.2]
theorem clear_new {w : World} {A A' : Option Addr} {n c n' c' : Nat} {v : Vw} {x : Nat} (h : ViewF w A n c A' n' c' v) (hx : w.heap.size ≤ x) : Clear A n A' n' x := by
  refine ⟨fun h0 e => ?_, fun h0 e => ?_⟩
  · obtain ⟨b, off, e1, hb, _⟩ := h.1.1.2.at_ h0
    rw [e1] at e
    injection e with e
    have e' : b = x := e
    omega
  · obtain ⟨b, off, e1, hb, _⟩ := h.2.1.1.2.at_ h0
    rw [e1] at e
    injection e with e
    have e' : b = x := e
    omega
/-- both places of each cell of two views of one shape. -/
def pairsL (v u : Vw) : List (Int × Int) := if (rightV v && rightV u && decide (v.sh = u.sh)) = true then (colL v).zip (colL u) else []
structure RangeSays : Prop where
  offsets : ∀ A n c A' n' c' v w, ViewF w A n c A' n' c' v → I64 v.off → Calls Try.prog 24 #[.agg #[.slice A n c, .slice A' n' c', .int .i64 v.off]] w (SeqIs enc1 (colL v) (Clear A n A' n') w)
  pairs : ∀ A n c A' n' c' v B m d B' m' d' u w, ViewF w A n c A' n' c' v → I64 v.off → ViewF w B m d B' m' d' u → I64 u.off → Calls Try.prog 23 #[.agg #[.slice A n c, .slice A' n' c', .int .i64 v.off], .agg #[.slice B m d, .slice B' m' d', .int .i64 u.off]] w
    (SeqIs enc2 (pairsL v u) (fun x => Clear A n A' n' x ∧ Clear B m B' m' x) w)
end Go.Proofs.Ytdjenakmdjiknaa
end

/-! Layer 9: what the walks of OdoPairs and OdoCollects share. -/
section
namespace Go.Proofs.Ytdjenakmdjiknaa
open Go.ChangeShapes Go.WideShapes Go.ChangeAt Go.RowKit Go.Shelf
set_option linter.unusedVariables false
set_option maxRecDepth 100000
attribute [local go_sem] Oper.semAt_some

theorem cells_three9 {w : World} {b : Nat} {t : TypeId} {x y z : Value} (h : Box w b t #[x, y, z]) : w.cell? ⟨b, 0, none⟩ = some x ∧ w.cell? ⟨b, 1, none⟩ = some y ∧ w.cell? ⟨b, 2, none⟩ = some z :=
  ⟨by rw [h.get]; rfl, by rw [h.get]; rfl, by rw [h.get]; rfl⟩
theorem cells_one9 {w : World} {b : Nat} {t : TypeId} {x : Value} (h : Box w b t #[x]) : w.cell? ⟨b, 0, none⟩ = some x ∧ w.frozen? ⟨b, 0, none⟩ = false :=
  ⟨by rw [h.get]; rfl, h.free 0⟩
theorem boxes_three9 (w : World) (t1 t2 t3 : TypeId) (a b c : Array Value) : Box (((w.alloc (.cells a t1)).alloc (.cells b t2)).alloc (.cells c t3)) w.heap.size t1 a ∧ Box (((w.alloc (.cells a t1)).alloc (.cells b t2)).alloc (.cells c t3)) (w.heap.size + 1) t2 b ∧ Box (((w.alloc (.cells a t1)).alloc (.cells b t2)).alloc (.cells c t3)) (w.heap.size + 1 + 1) t3 c ∧ w.grownBy (((w.alloc (.cells a t1)).alloc (.cells b t2)).alloc (.cells c t3)) none := by
  refine ⟨((Box.fresh w t1 a).alloc _).alloc _, ?_, ?_, grown_alloc (grown_alloc (World.grownBy_alloc w _ none) _) _⟩
  · have h := (Box.fresh (w.alloc (.cells a t1)) t2 b).alloc (.cells c t3)
    simpa using h
  · have h := Box.fresh ((w.alloc (.cells a t1)).alloc (.cells b t2)) t3 c
    simpa using h
theorem light_len9 {s t : List Int} {o most : Int} (h : lightB ⟨s, t, o⟩ most = true) : s.length ≤ 20 ∧ t.length ≤ 20 := by
  unfold lightB at h
  simp only [Bool.and_eq_true, decide_eq_true_eq] at h
  exact h.1
theorem cells_six9 {w : World} {b b' : Nat} {t t' : TypeId} {x y z x' y' z' : Value} (h : Box w b t #[x, y, z]) (h' : Box w b' t' #[x', y', z']) : w.cell? ⟨b, 0, none⟩ = some x ∧ w.cell? ⟨b, 1, none⟩ = some y ∧ w.cell? ⟨b, 2, none⟩ = some z ∧ w.cell? ⟨b', 0, none⟩ = some x' ∧ w.cell? ⟨b', 1, none⟩ = some y' ∧ w.cell? ⟨b', 2, none⟩ = some z' :=
  ⟨by rw [h.get]; rfl, by rw [h.get]; rfl, by rw [h.get]; rfl, by rw [h'.get]; rfl, by rw [h'.get]; rfl, by rw [h'.get]; rfl⟩
theorem box_dr9 {w : World} {g : Nat} {t : TypeId} {cs : Array Value} (h : Box w g t cs) : Box w.drew g t cs := h
theorem box_second9 (w : World) (t1 t2 : TypeId) (a b : Array Value) : Box ((w.alloc (.cells a t1)).alloc (.cells b t2)) (w.heap.size + 1) t2 b := by
  have h := Box.fresh (w.alloc (.cells a t1)) t2 b
  simpa using h
/-- two lists are kept in boxes of their own. -/
def Two9 (w : World) (l l' : List Int) (v v' : Value) (w' : World) : Prop := ∃ b b' L L' ca cb, v = .pointer (some ⟨b, 0, none⟩) ∧ v' = .pointer (some ⟨b', 0, none⟩) ∧ Box w' b 22 #[.slice L l.length ca] ∧ Box w' b' 22 #[.slice L' l'.length cb] ∧ OwnI w' w.heap.size L l.length ca l ∧ OwnI w' w.heap.size L' l'.length cb l' ∧ b ≠ b' ∧ w.heap.size ≤ b ∧ w.heap.size ≤ b' ∧ w.grownBy w' none
theorem col_len9' {v : Vw} (hr : rightV v = true) : ((colL v).length : Int) = cellsV v := by
  rw [col_yes hr]
  unfold offsL
  rw [List.length_map, List.length_range, cells_right hr]
  have := prod_nonneg (s := v.sh) fun z hz => ((right_all (full_all (rightV_all hr).1).1).1 z hz).1
  omega
theorem zip_len9 {v u : Vw} {ra rb eq : Bool} (ha : rightV v = ra) (hb : rightV u = rb) (he : decide (v.sh = u.sh) = eq) : (ra && rb && eq) = true → (colL v).length = (colL u).length := by
  intro h
  simp only [Bool.and_eq_true] at h
  obtain ⟨⟨rfl, rfl⟩, rfl⟩ := h
  have h1 := of_decide_eq_true he
  have h2 := col_len9' ha
  have h3 := col_len9' hb
  have h4 : cellsV v = cellsV u := by unfold cellsV; rw [h1]
  omega
theorem fst_get9 {zs : List (Int × Int)} {j : Nat} (h : j < zs.length) : (zs.map Prod.fst).getD j 0 = (zs.getD j (0, 0)).1 := by simp [List.getD, h]
theorem snd_get9 {zs : List (Int × Int)} {j : Nat} (h : j < zs.length) : (zs.map Prod.snd).getD j 0 = (zs.getD j (0, 0)).2 := by simp [List.getD, h]
theorem take_last9 {zs pre : List (Int × Int)} {x : Int × Int} {k : Nat} (h : zs.take k = pre ++ [x]) : x = zs.getD pre.length (0, 0) := by
  have hl := congrArg List.length h
  rw [List.length_take, List.length_append, List.length_singleton] at hl
  have h1 : (zs.take k)[pre.length]? = some x := by rw [h]; simp
  rw [List.getElem?_take_of_lt (by omega)] at h1
  simp [List.getD, h1]
theorem pairs_small9 (v u : Vw) : (pairsL v u).length ≤ 1048576 := by
  unfold pairsL
  split
  · have := col_small v
    rw [List.length_zip]
    omega
  · simp
theorem take_next9 {zs pre : List (Int × Int)} (hp : pre = zs.take pre.length) (hlt : pre.length < zs.length) {x : Int × Int} (hx : x = zs.getD pre.length (0, 0)) : pre ++ [x] = zs.take (pre ++ [x]).length ∧ (pre ++ [x]).length ≤ zs.length := by
  rw [List.length_append, List.length_singleton]
  refine ⟨?_, hlt⟩
  rw [List.take_succ_eq_append_getElem hlt, ← hp, hx]
  simp [List.getD, hlt]
theorem cells_put9 {w : World} {b : Nat} {t : TypeId} {x : Value} (h : Box w b t #[x]) (u : Value) : (w.setCell ⟨b, 0, none⟩ u).cell? ⟨b, 0, none⟩ = some u ∧ (w.setCell ⟨b, 0, none⟩ u).frozen? ⟨b, 0, none⟩ = false ∧ True :=
  ⟨by rw [(h.put 0 u).get]; rfl, (h.put 0 u).free 0, trivial⟩
theorem cells_last9 {w : World} {b b1 b2 b3 : Nat} {t t1 t2 t3 : TypeId} {x y z x1 x2 x3 : Value} (h : Box w b t #[x, y, z]) (h1 : Box w b1 t1 #[x1]) (h2 : Box w b2 t2 #[x2]) (h3 : Box w b3 t3 #[x3]) : w.cell? ⟨b, 0, none⟩ = some x ∧ w.cell? ⟨b, 1, none⟩ = some y ∧ w.cell? ⟨b, 2, none⟩ = some z ∧ w.cell? ⟨b1, 0, none⟩ = some x1 ∧ w.cell? ⟨b2, 0, none⟩ = some x2 ∧ w.cell? ⟨b3, 0, none⟩ = some x3 :=
  ⟨by rw [h.get]; rfl, by rw [h.get]; rfl, by rw [h.get]; rfl, by rw [h1.get]; rfl, by rw [h2.get]; rfl, by rw [h3.get]; rfl⟩
theorem leave_one9 {fn : Func} {tmps : Array Value} {R : Ending → World → Prop} {D : Nat} {ds : List Deferred} {W : World} (hK : W.heap[D]? = some (.deferred (some []))) (h : LeavesInM Fence.wide 9 Try.prog fn tmps R ds .returning (W.putObj D (.deferred none))) :
    LeavesInM Fence.wide 9 Try.prog fn tmps R ({ target := .collected D, args := #[] } :: ds) .returning W := ⟨by simp, .inl ⟨_, _, rfl, run_takeDeferred hK, h⟩⟩
theorem put_obj9 {W : World} {D D' : Nat} {o o' : Obj} (h : W.heap[D]? = some o) (hne : D ≠ D') : (W.putObj D' o').heap[D]? = some o :=
  ((grownBy_putObj' W D' o').block D (Array.getElem?_eq_some_iff.1 h).1 (fun e => hne (by injection e))).trans h
/-- a function is left behind three ranges: its answer lies in the box at b. -/
theorem leave_three9 {fn : Func} {tmps : Array Value} {D D2 D3 b : Nat} {w W3 wm : World} (h1 : W3.heap[D]? = some (.deferred (some []))) (h2 : W3.heap[D2]? = some (.deferred (some []))) (h3 : W3.heap[D3]? = some (.deferred (some []))) (n23 : D2 ≠ D3) (n12 : D ≠ D2) (n13 : D ≠ D3)
    (hg : W3.grownBy wm none) (hb : Box wm b 4 #[.bool false]) (hw : w.grownBy wm none) (hb0 : w.heap.size ≤ b) (hD : w.heap.size ≤ D ∧ w.heap.size ≤ D2 ∧ w.heap.size ≤ D3)
    (hr : ∀ W9 : World, W9.cell? ⟨b, 0, none⟩ = some (.bool true) → (results fn tmps).run Try.prog W9 = .ok (.bool true) W9) :
    LeavesInM Fence.wide 9 Try.prog fn tmps (TellG (.bool true) w) ({ target := .collected D3, args := #[] } :: { target := .collected D2, args := #[] } :: { target := .collected D, args := #[] } :: []) .returning (wm.setCell ⟨b, 0, none⟩ (.bool true)) := by
  have k : ∀ E, W3.heap[E]? = some (.deferred (some [])) → E ≠ b ∧ (wm.setCell ⟨b, 0, none⟩ (.bool true)).heap[E]? = some (.deferred (some [])) := fun E hE => by
    have h4 : wm.heap[E]? = some (.deferred (some [])) := (hg.block E (Array.getElem?_eq_some_iff.1 hE).1 (by simp)).trans hE
    have hne : E ≠ b := fun e => by
      subst e
      unfold Box at hb
      rw [hb] at h4
      cases h4
    exact ⟨hne, by simp [World.setCell, Array.getElem?_modify, Ne.symm hne]; exact h4⟩
  have hbb := hb.put 0 (.bool true)
  refine leave_one9 (k D3 h3).2 (leave_one9 (put_obj9 (k D2 h2).2 n23) (leave_one9 (put_obj9 (put_obj9 (k D h1).2 n13) n12) ?_))
  have hc : Box ((((wm.setCell ⟨b, 0, none⟩ (.bool true)).putObj D3 (.deferred none)).putObj D2 (.deferred none)).putObj D (.deferred none)) b 4 #[.bool true] := put_obj9 (put_obj9 (put_obj9 hbb (Ne.symm (k D3 h3).1)) (Ne.symm (k D2 h2).1)) (Ne.symm (k D h1).1)
  refine ⟨.bool true, hr _ (cells_one9 hc).1, rfl, ?_⟩
  exact grown_join (grown_join (grown_join (grown_put hw (.inr hb0) _) (grownBy_putObj' _ D3 _) (.inr fun z e => by injection e with e; omega)) (grownBy_putObj' _ D2 _) (.inr fun z e => by injection e with e; omega)) (grownBy_putObj' _ D _) (.inr fun z e => by injection e with e; omega)
theorem own_box9 {w : World} {B n c g : Nat} {A : Option Addr} {zs : List Int} {cs : Array Value} (h : OwnI w B A n c zs) (hb : Box w g 22 cs) : A.map (·.block) ≠ some g := by
  have := own_apart h.2 hb (by decide)
  rw [map_own] at this
  exact this
theorem two9_put {w4 wd : World} {l l' : List Int} {LA LB : Option Addr} {ca cb b b' : Nat} {x y : Value} (hA : OwnI wd w4.heap.size LA l.length ca l) (hB : OwnI wd w4.heap.size LB l'.length cb l') (q : Box wd b 22 #[x]) (q' : Box wd b' 22 #[y]) (ne : b ≠ b') (hb : w4.heap.size ≤ b) (hb' : w4.heap.size ≤ b') (hg : w4.grownBy wd none) :
    Two9 w4 l l' (.pointer (some ⟨b, 0, none⟩)) (.pointer (some ⟨b', 0, none⟩)) ((wd.setCell ⟨b, 0, none⟩ (.slice LA l.length ca)).setCell ⟨b', 0, none⟩ (.slice LB l'.length cb)) := by
  have k1 := q.put 0 (.slice LA l.length ca)
  have k2 := q'.grown (row := some b) (grown_put (j := 0) (grown_refl wd (some b)) (.inl rfl) (.slice LA l.length ca)) (fun e => ne (by injection e with e; exact e.symm))
  refine ⟨b, b', LA, LB, ca, cb, rfl, rfl, ?_, k2.put 0 _, own_put_other (own_put_other hA (own_box9 hA q) _) (own_box9 hA q') _, own_put_other (own_put_other hB (own_box9 hB q) _) (own_box9 hB q') _, ne, hb, hb', grown_put (grown_put hg (.inr hb) _) (.inr hb') _⟩
  exact k1.grown (row := some b') (grown_put (j := 0) (grown_refl _ (some b')) (.inl rfl) (.slice LB l'.length cb)) (fun e => ne (by injection e))
theorem two9_new {w4 wd : World} {l l' : List Int} {LA LB : Option Addr} {ca cb b' : Nat} {y : Value} (hA : OwnI wd w4.heap.size LA l.length ca l) (hB : OwnI wd w4.heap.size LB l'.length cb l') (q' : Box wd b' 22 #[y]) (hb' : w4.heap.size ≤ b') (hg : w4.grownBy wd none) :
    Two9 w4 l l' (.pointer (some ⟨wd.heap.size, 0, none⟩)) (.pointer (some ⟨b', 0, none⟩)) ((wd.alloc (.cells #[.slice LA l.length ca] 22)).setCell ⟨b', 0, none⟩ (.slice LB l'.length cb)) := by
  have hg2 := World.grownBy_alloc wd (.cells #[.slice LA l.length ca] 22) none
  have ne : wd.heap.size ≠ b' := by have := q'.small; omega
  refine ⟨wd.heap.size, b', LA, LB, ca, cb, rfl, rfl, ?_, (q'.grown hg2 (by simp)).put 0 _, own_put_other (hA.grow hg2) (own_box9 hA q') _, own_put_other (hB.grow hg2) (own_box9 hB q') _, ne, hg.size, hb', grown_put (grown_alloc hg _) (.inr hb') _⟩
  exact (Box.fresh wd 22 #[.slice LA l.length ca]).grown (row := some b') (grown_put (j := 0) (grown_refl _ (some b')) (.inl rfl) (.slice LB l'.length cb)) (fun e => ne (by injection e))
theorem two9_both {w4 wd : World} {l l' : List Int} {LA LB : Option Addr} {ca cb : Nat} (hA : OwnI wd w4.heap.size LA l.length ca l) (hB : OwnI wd w4.heap.size LB l'.length cb l') (hg : w4.grownBy wd none) :
    Two9 w4 l l' (.pointer (some ⟨wd.heap.size, 0, none⟩)) (.pointer (some ⟨wd.heap.size + 1, 0, none⟩)) ((wd.alloc (.cells #[.slice LA l.length ca] 22)).alloc (.cells #[.slice LB l'.length cb] 22)) := by
  have hg2 := grown_alloc (World.grownBy_alloc wd (.cells #[.slice LA l.length ca] 22) none) (.cells #[.slice LB l'.length cb] 22)
  exact ⟨wd.heap.size, wd.heap.size + 1, LA, LB, ca, cb, rfl, rfl, (Box.fresh wd _ _).alloc _, box_second9 wd _ _ _ _, hA.grow hg2, hB.grow hg2, by omega, hg.size, by have := hg.size; omega, grown_join hg hg2 (.inr (by simp))⟩
theorem two9_both' {w4 wd : World} {l l' : List Int} {LA LB : Option Addr} {ca cb : Nat} (hA : OwnI wd w4.heap.size LA l.length ca l) (hB : OwnI wd w4.heap.size LB l'.length cb l') (hg : w4.grownBy wd none) :
    Two9 w4 l l' (.pointer (some ⟨wd.heap.size + 1, 0, none⟩)) (.pointer (some ⟨wd.heap.size, 0, none⟩)) ((wd.alloc (.cells #[.slice LB l'.length cb] 22)).alloc (.cells #[.slice LA l.length ca] 22)) := by
  have hg2 := grown_alloc (World.grownBy_alloc wd (.cells #[.slice LB l'.length cb] 22) none) (.cells #[.slice LA l.length ca] 22)
  exact ⟨wd.heap.size + 1, wd.heap.size, LA, LB, ca, cb, rfl, rfl, box_second9 wd _ _ _ _, (Box.fresh wd _ _).alloc _, hA.grow hg2, hB.grow hg2, by omega, by have := hg.size; omega, hg.size, grown_join hg hg2 (.inr (by simp))⟩
end Go.Proofs.Ytdjenakmdjiknaa
end

/-! Layer 9: Lines, as a value: what is asked of it. A line is a view of one axis; its two lists lie in memory in the world of its round. -/
section
namespace Go.Proofs.Ytdjenakmdjiknaa
open Go.ChangeShapes Go.WideShapes Go.ChangeAt Go.RowKit Go.Shelf
set_option linter.unusedVariables false
set_option maxRecDepth 100000

/-- a line as it is yielded: where its two lists lie, what room they have, where it begins. -/
structure LineZ where
  A : Option Addr
  c : Nat
  B : Option Addr
  d : Nat
  off : Int
def encZ (z : LineZ) : Array Value := #[.agg #[.slice z.A 1 z.c, .slice z.B 1 z.d, .int .i64 z.off]]
/-- what a line's lists hold. -/
def LineAt (sh st : Int) (z : LineZ) (W : World) : Prop := ViewF W z.A 1 z.c z.B 1 z.d ⟨[sh], [st], z.off⟩
theorem sees_put {w : World} {B n l : Nat} {A : Option Addr} {f : Nat → Value} {o o' : Obj} (h : Sees w B A n f) (ho : w.heap[l]? = some o) (hc : o.isCells = false) : Sees (w.putObj l o') B A n f := fun h0 => by
  obtain ⟨b, off, e, hb, hs⟩ := h h0
  have hne : b ≠ l := fun e2 => by
    have h1 := hs 0 h0
    subst e2
    unfold World.cell? at h1
    simp only [ho] at h1
    cases o with
    | cells => exact absurd hc (by simp [Obj.isCells])
    | _ => exact absurd h1 (by simp)
  exact ⟨b, off, e, hb, fun k hk => (World.cell?_of_block (World.putObj_heap_other hne)).trans (hs k hk)⟩
theorem line_put {sh st : Int} (z : LineZ) (W : World) (l : Nat) (o o' : Obj) (h : LineAt sh st z W) (ho : W.heap[l]? = some o) (hc : o.isCells = false) : LineAt sh st z (W.putObj l o') :=
  ⟨⟨⟨h.1.1.1, (sees_put h.1.1.2 ho hc).more (grownBy_putObj' W l o').size⟩, h.1.2⟩, ⟨⟨h.2.1.1.1, (sees_put h.2.1.1.2 ho hc).more (grownBy_putObj' W l o').size⟩, h.2.1.2⟩, h.2.2⟩
/-- Lines' value: in every world grown out of it, lines whose places are these, in order. -/
def SeqLines (v : Vw) (i : Int) (Away : Nat → Prop) (w : World) (e : Ending) (w' : World) : Prop :=
  w.grownBy w' none ∧ ∃ (gf : Nat) (lb : Array Value), e = .returned (.func (.func gf) #[] lb) ∧ (∀ (args : Array Value) (W : World), (callFunc gf args).run Try.prog W = .ok (.enter gf args) W) ∧
    ∀ (n : Nat) (W : World) (X : Nat → Prop), 6 ≤ n → w'.grownBy W none → (∀ x, X x → x < w.heap.size ∧ Away x) →
      SeqTells n gf lb encZ (KeepX X) (fun z W1 => LineAt (v.sh.getD i.toNat 0) (v.st.getD i.toNat 0) z W1) (fun zs => zs.map LineZ.off = linesL v i) (fun pre => ∃ k, k ≤ (linesL v i).length ∧ pre.map LineZ.off = (linesL v i).take k) (linesL v i).length W
structure LinesSay : Prop where
  lines : ∀ A n c A' n' c' v i w, ViewF w A n c A' n' c' v → I64 v.off → I64 i → Calls Try.prog 9 #[.agg #[.slice A n c, .slice A' n' c', .int .i64 v.off], .int .i64 i] w (SeqLines v i (Clear A n A' n') w)
end Go.Proofs.Ytdjenakmdjiknaa
end

/-! Layer 9: range_told for a range whose variable gets a box of its own in every round: what comes ahead of the round's body may make memory. -/
section
namespace Go.Proofs.Ytdjenakmdjiknaa
open Go.ChangeShapes Go.WideShapes Go.ChangeAt Go.RowKit Go.Shelf
set_option linter.unusedVariables false
set_option maxRecDepth 100000

theorem range_round {α : Type} {n : Nat} (h1 : 1 ≤ n) {g : Operand} {ps : Array Tmp} {assign body : Code} {Q : Exit → Act → World → Prop} {a : Act} {w : World} {gf : Nat} {lb : Array Value} (hg : a.eval g = .func (.func gf) #[] lb) (eg : ∀ (args : Array Value) (W : World), (callFunc gf args).run Try.prog W = .ok (.enter gf args) W)
    {encs : α → Array Value} {Kp : World → World → Prop} {R : α → World → Prop} {S Sp : List α → Prop} {N : Nat} (hseq : SeqTells (n - 1) gf lb encs Kp R S Sp N w)
    (hKt : ∀ {A B C : World}, Kp A B → Kp B C → Kp A C) (hKb : ∀ (W : World) (l : Nat) (o o' : Obj), w.heap.size ≤ l → W.heap[l]? = some o → o.isCells = false → o.isWalk = false → Kp W (W.putObj l o'))
    (hR : ∀ (x : α) (W : World) (l : Nat) (o o' : Obj), R x W → W.heap[l]? = some o → o.isCells = false → R x (W.putObj l o')) (hps : ∀ x, (encs x).size = ps.size)
    (hRg : ∀ (x : α) (W W' : World), R x W → W.grownBy W' none → R x W') (hKg : ∀ (W W' : World), W.grownBy W' none → Kp W W')
    (I : List α → World → Prop) (Ix : Code → List α → World → Prop) (hI : OwnAll w.heap.size I) (hIx : ∀ c, OwnAll w.heap.size (Ix c)) (h0 : I [] w)
    (hround : ∀ (l : Nat) (pre : List α) (x : α) (W : World), I pre W → R x W → pre.length < N → assign.wpIn (Fence.wide.inRound l) (n - 1 - 1) Try.prog (Exit.then (fun a1 W1 => W.grownBy W1 none ∧ ∀ (W2 : World) (k : Nat) (o o' : Obj), W1.heap[k]? = some o → o.isCells = false → W2 = W1.putObj k o' → I pre W2 → R x W2 → body.wpIn (Fence.wide.inRound l) (n - 1 - 1) Try.prog (ownPostT w.heap.size Kp I Ix (pre ++ [x]) W2) a1 W2) (fun _ _ _ => False)) { tmps := (ps.zip (encs x)).foldl (fun t (p, v) => t.setIfInBounds p v) a.tmps, defers := [] } W)
    (hdone : ∀ (D : Nat) (xs : List α) (W : World), w.heap.size ≤ D → S xs → I xs W → W.heap[D]? = some (.deferred (some [])) → Q .normal { a with defers := { target := .collected D, args := #[] } :: a.defers } W)
    (hstop : ∀ (D : Nat) (c : Code) (pre : List α) (W : World), w.heap.size ≤ D → Sp pre → Ix c pre W → W.heap[D]? = some (.deferred (some [])) → c.wpIn Fence.wide n Try.prog Q { a with defers := { target := .collected D, args := #[] } :: a.defers } W) :
    (Code.rangeFunc g ps assign body).wpIn Fence.wide n Try.prog Q a w := by
  refine wpIn_rangeFunc fun fn hfn => ?_
  obtain ⟨D, hD⟩ : ∃ D, D = w.heap.size := ⟨_, rfl⟩
  obtain ⟨rc, hrc⟩ : ∃ rc : LoopState → Option Code → Loop, rc = fun s p => { state := s, pending := p, fn := fn, tmps := a.tmps, params := ps, assign := assign, body := body, defers := D } := ⟨_, rfl⟩
  obtain ⟨V, hV⟩ : ∃ V, V = (w.alloc (.deferred (some []))).alloc (.loop (rc .ready none)) := ⟨_, rfl⟩
  have hgV : w.grownBy V none := by rw [hV]; exact grown_alloc (World.grownBy_alloc w _ none) _
  have hBV : Booked D (rc .ready none) V := by
    constructor
    · have h := World.alloc_heap_new (w.alloc (.deferred (some []))) (.loop (rc .ready none))
      rw [World.size_alloc, ← hD, ← hV] at h
      exact h
    · rw [hV, hD]
      exact (Below.heap_alloc _ _ _ (by simp)).trans (World.alloc_heap_new w _)
  have hIV : I [] V := by rw [hV]; exact hI.alloc _ (hI.alloc _ h0)
  have hVs : V.heap.size = w.heap.size + 2 := by rw [hV]; simp
  -- a turn of the record leaves what the caller says
  have turnI : ∀ {pre W r} (r' : Loop), I pre W → Booked D r W → I pre (W.putObj (D + 1) (.loop r')) := fun r' h hb => hI.put _ h (by omega)
  have turnX : ∀ {c pre W r} (r' : Loop), Ix c pre W → Booked D r W → Ix c pre (W.putObj (D + 1) (.loop r')) := fun r' h hb => (hIx _).put _ h (by omega)
  have far : ∀ {row : Option Nat}, (∀ z, row = some z → V.heap.size ≤ z ∧ True) → (∀ z, row = some z → w.heap.size ≤ z ∧ True) ∧ ∀ z, row = some z → D + 1 < z := fun hr => ⟨fun z e => ⟨by have := (hr z e).1; omega, trivial⟩, fun z e => by have := (hr z e).1; omega⟩
  refine ⟨D + 1, [{ target := .collected D, args := #[] }], V, { target := .fn (.func gf) lb, args := #[.func (.yield (D + 1)) #[] #[]] }, V, gf, #[.func (.yield (D + 1)) #[] #[]] ++ lb, V, ?_, ?_, ?_, ?_, fun _ => h1, ?_⟩
  · rw [hV, hrc, hD]
    exact run_enterLoop_outer _ _ _ _ _
  · simp only [resolve, hg]
    simp [go_sem]
  · intro f' hf'
    exact trivial
  · simp [invoke, go_sem, eg]
  refine (hseq (D + 1) (fun pre W => I pre W ∧ Booked D (rc .ready none) W) (fun pre W => ∃ c, Ix c pre W ∧ Booked D (rc .done (some c)) W) V (below_of_grown hgV)
    (fun s A B row hs hg' hr => ⟨hI s A B row hs.1 hg' (far hr).1, hs.2.rows hg' (far hr).2⟩)
    (fun s A B row hs hg' hr => by
      obtain ⟨c, hc, hb⟩ := hs
      exact ⟨c, hIx c s A B row hc hg' (far hr).1, hb.rows hg' (far hr).2⟩) ?_ ⟨hIV, hBV⟩).mono ?_
  · rintro pre x W ⟨hi, hb⟩ hx hlen
    have hy := run_yield (P := Try.prog) (args := encs x) hb.loop (by rw [hrc]; exact hps x)
    rw [hrc] at hy
    obtain ⟨busy, hbusy⟩ : ∃ busy : Loop, busy = { rc .ready none with state := .busy } := ⟨_, rfl⟩
    refine ⟨fn, _, assign, body, hy, roundIn_of_wpIn hfn (wpIn_mono (hround _ pre x W hi hx hlen) ?_)⟩
    intro e1 a1 W1 he1
    cases e1 with
    | normal =>
      obtain ⟨hgW, hnext⟩ := he1
      have hb1 := hb.rows hgW (by simp)
      have hB := hb1.turn busy
      refine ⟨W1.putObj (D + 1) (.loop busy), ?_, ?_⟩
      · rw [hbusy]
        exact run_beginRound hb1.loop (by rw [hrc])
      have kb : Kp W (W1.putObj (D + 1) (.loop busy)) := hKt (hKg _ _ hgW) (hKb _ _ _ _ (by omega) hb1.loop rfl rfl)
      have kf0 : KeepsFrom V.heap.size W W1 := KeepsFrom.of_grownBy hgW (by simp)
      have hi1 : I pre W1 := hI _ _ _ _ hi hgW (by simp)
      -- the end of a round: the record is ready again, or done
      have ends : ∀ (jump : Option Code) (W3 : World), KeepsFrom D (W1.putObj (D + 1) (.loop busy)) W3 → ∃ r3 : Loop, r3 = rc (if jump.isNone then .ready else .done) jump ∧ Booked D busy W3 ∧
          (Instr.endRound (D + 1) jump).run Try.prog W3 = .ok (.bool jump.isNone) (W3.putObj (D + 1) (.loop r3)) := fun jump W3 hk => by
        have h3 := hB.others hk
        refine ⟨_, rfl, h3, ?_⟩
        have h4 := run_endRound (P := Try.prog) jump h3.loop
        rw [hbusy, hrc] at h4
        rw [hrc]
        exact h4
      refine wpIn_mono (hnext _ _ _ _ hb1.loop rfl rfl (turnI busy hi1 hb1) (hR x W1 _ _ _ (hRg x _ _ hx hgW) hb1.loop rfl)) fun e a3 W3 hp => ?_
      cases e with
      | normal =>
        obtain ⟨hk, hkp, hi3⟩ := hp
        rw [← hD] at hk
        obtain ⟨r3, hr3, hb3, hrun⟩ := ends none W3 hk
        have hkf := (((kf0.trans (keeps_put W1 (.loop busy) (show D + 1 < V.heap.size by omega))).trans (keeps_less hk (by omega)))).trans (keeps_put W3 (.loop (rc .ready none)) (show D + 1 < V.heap.size by omega))
        subst hr3
        exact ⟨_, _, hrun, .inl ⟨rfl, ⟨turnI _ hi3 hb3, hb3.turn _⟩, hKt (hKt kb hkp) (hKb _ _ _ _ (by omega) hb3.loop rfl rfl), hkf⟩⟩
      | ret =>
        obtain ⟨hk, hi3⟩ := hp
        rw [← hD] at hk
        obtain ⟨r3, hr3, hb3, hrun⟩ := ends (some .ret) W3 hk
        subst hr3
        have hkf := (((kf0.trans (keeps_put W1 (.loop busy) (show D + 1 < V.heap.size by omega))).trans (keeps_less hk (by omega)))).trans (keeps_put W3 (.loop (rc .done (some .ret))) (show D + 1 < V.heap.size by omega))
        exact ⟨_, _, hrun, .inr ⟨rfl, ⟨.ret, turnX _ hi3 hb3, hb3.turn _⟩, hkf⟩⟩
      | exit id =>
        obtain ⟨hk, hi3⟩ := hp
        rw [← hD] at hk
        obtain ⟨r3, hr3, hb3, hrun⟩ := ends (some (.exit id)) W3 hk
        subst hr3
        have hkf := (((kf0.trans (keeps_put W1 (.loop busy) (show D + 1 < V.heap.size by omega))).trans (keeps_less hk (by omega)))).trans (keeps_put W3 (.loop (rc .done (some (.exit id)))) (show D + 1 < V.heap.size by omega))
        exact ⟨_, _, hrun, .inr ⟨rfl, ⟨(.exit id), turnX _ hi3 hb3, hb3.turn _⟩, hkf⟩⟩
      | goto t =>
        obtain ⟨hk, hi3⟩ := hp
        rw [← hD] at hk
        obtain ⟨r3, hr3, hb3, hrun⟩ := ends (some (.goto t)) W3 hk
        subst hr3
        have hkf := (((kf0.trans (keeps_put W1 (.loop busy) (show D + 1 < V.heap.size by omega))).trans (keeps_less hk (by omega)))).trans (keeps_put W3 (.loop (rc .done (some (.goto t)))) (show D + 1 < V.heap.size by omega))
        exact ⟨_, _, hrun, .inr ⟨rfl, ⟨(.goto t), turnX _ hi3 hb3, hb3.turn _⟩, hkf⟩⟩
      | panic ch => exact hp.elim
      | outgrown => exact hp.elim
    | ret => exact he1.elim
    | exit id => exact he1.elim
    | goto t => exact he1.elim
    | panic ch => exact he1.elim
    | outgrown => exact he1.elim
  · rintro e W2 ⟨⟨v, rfl⟩, hend⟩
    rcases hend with ⟨xs, hS, hi, hb⟩ | ⟨pre, hSp, c, hi, hb⟩
    · have h2 := run_endLoop (P := Try.prog) hb.loop (by rw [hrc]; simp)
      rw [hrc] at h2
      exact ⟨none, _, h2, hdone D xs _ (by omega) hS (turnI _ hi hb) (hb.turn _).late⟩
    · have h2 := run_endLoop (P := Try.prog) hb.loop (by rw [hrc]; simp)
      rw [hrc] at h2
      exact ⟨some c, _, h2, hstop D c pre _ (by omega) hSp (turnX _ hi hb) (hb.turn _).late⟩
end Go.Proofs.Ytdjenakmdjiknaa
end

/-! A region that draws its order, in the round of a range over a function: one walk of its text's order serves, as outside a round. -/
section
namespace Go.Proofs.Ytdjenakmdjiknaa
open Go.ChangeShapes Go.WideShapes Go.ChangeAt Go.RowKit
set_option linter.unusedVariables false

section
variable {F : Fence} {n r : Nat} {P : Program} {ops : Array Oper} {md : Region.Mode} {Q : Exit → Act → World → Prop}
theorem opIn_round {o : Oper} {a : Act} {w : World} {K : Act → World → Prop} (hd : ∀ c, o.op ≠ .defer c) (h : o.wpIn F n P a w K Q) : o.wpIn (F.inRound r) n P a w K Q := by
  unfold Oper.wpIn at *
  rw [Oper.semAt_eq _ _ _ hd] at *
  obtain ⟨h1, h2⟩ := h
  refine ⟨h1, ?_⟩
  generalize (execOp a.eval o).run P w = res at *
  cases res with
  | halt x w' => exact h2
  | ok x w' => cases x <;> exact h2
theorem wpOpIn_round {i : Nat} {a : Act} {w : World} {K : Act → World → Prop} (hd : ∀ o, ops[i]? = some o → ∀ c, o.op ≠ .defer c) (h : wpOpIn F n P ops Q i K a w) : wpOpIn (F.inRound r) n P ops Q i K a w := by
  unfold wpOpIn at *
  cases ho : ops[i]? with
  | none => rw [ho] at h; exact h
  | some o =>
    rw [ho] at h
    dsimp only at h ⊢
    by_cases hw : Region.wanted o (yielded ops a.tmps) = true
    · rw [if_pos hw] at h ⊢
      exact opIn_round (hd o ho) h
    · rw [if_neg hw] at h ⊢
      exact h
theorem wpAnyIn_round (hd : ∀ (i : Nat) (o : Oper), ops[i]? = some o → ∀ c, o.op ≠ .defer c) : ∀ (fuel : Nat) (listed : Array Bool) (a : Act) (w : World), wpAnyIn F n P md ops Q fuel listed a w → wpAnyIn (F.inRound r) n P md ops Q fuel listed a w
  | 0, _, _, _, h => h
  | fuel + 1, _, _, _, h => ⟨h.1, fun i hi => wpOpIn_round (hd i) (wpOpIn_mono (fun a w hh => wpAnyIn_round hd fuel _ a w hh) (h.2 i hi))⟩
def noDefer (l : List Oper) : Bool := l.all fun o => match o.op with | .defer _ => false | _ => true
theorem noDefer_spec {l : List Oper} (h : noDefer l = true) : ∀ (i : Nat) (o : Oper), l.toArray[i]? = some o → ∀ c, o.op ≠ .defer c := by
  intro i o ho c e
  have hm : o ∈ l := by
    rw [List.getElem?_toArray] at ho
    exact List.mem_of_getElem? ho
  have := List.all_eq_true.1 h o hm
  rw [e] at this
  cases this
theorem quiet_round {id : Nat} {a : Act} {w : World} {l : List Oper} (hro : F.round = none) (hm : P.follows .mixedOrders = true) (hB : Region.lexB .any l.toArray = true) (hd : noDefer l = true)
    (h : wpQuietIn F n P l.toArray (fun w' => ∃ k, w' = w.drewN k) (fun a' => ∀ w', (∃ k, w' = w.drewN k) → Q .normal a' w') l a) : (Code.region id l.toArray true).wpIn (F.inRound r) n P Q a w := by
  simp only [Region.lexB, Bool.and_eq_true] at hB
  refine wpIn_region_any hm (wpAnyIn_round (noDefer_spec hd) _ _ _ _ (wpAnyIn_of_quiet (C := fun w' => ∃ k, w' = w.drewN k) (Q := fun a' => ∀ w', (∃ k, w' = w.drewN k) → Q .normal a' w') hro (fun _ w' hw' h => h w' hw') _ _ _ _ ⟨1, rfl⟩ ?_))
  have h2 := wpAnyQIn_lex (F := F) (n := n) (C := fun w' => ∃ k, w' = w.drewN k) (md := .any) hB.1 l 0 (Array.replicate l.toArray.size false) a (by simp) (by simpa using hB.2) h
  simpa using h2
end
end Go.Proofs.Ytdjenakmdjiknaa
end
