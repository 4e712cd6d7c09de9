/-
  Texts of this claim, one behind the other.
-/
import Derived.Shelf.Abstract
import Derived.Shelf.RegionOpen
import Derived.OwnWalkIn
import Derived.TacticsInMore
import Derived.LoopNIn
import Derived.LoopIn
import Derived.RangeFuncWrites
import Derived.Test.YtdjenakmdjiknaaPack1
import Derived.Test.YtdjenakmdjiknaaPack2
import Derived.Test.YtdjenakmdjiknaaPack3
import Derived.Test.YtdjenakmdjiknaaPack4

/-! Layer 9: knows. -/
section
namespace Go.Proofs.Ytdjenakmdjiknaa
open Go.ChangeShapes Go.WideShapes Go.ChangeAt Go.RowKit
set_option linter.unusedVariables false
set_option maxRecDepth 100000

theorem vw_eq9 {p : Vw × Bool} {s t : List Int} {o : Int} {b : Bool} (h : p.1.sh = s ∧ p.1.st = t ∧ p.1.off = o ∧ p.2 = b) : p = (⟨s, t, o⟩, b) := by
  obtain ⟨⟨s', t', o'⟩, b'⟩ := p
  obtain ⟨rfl, rfl, rfl, rfl⟩ := h
  rfl
theorem k9new : newV [2, 2] = (⟨[2, 2], [2, 1], 0⟩, true) := vw_eq9 (by decide)
theorem k9perm : permV ⟨[2, 2], [2, 1], 0⟩ [1, 0] = (⟨[2, 2], [1, 2], 0⟩, true) := vw_eq9 (by decide)
theorem k9col : colL ⟨[2, 2], [1, 2], 0⟩ = [0, 2, 1, 3] := by decide +kernel
theorem lit_numsF9 (w : World) (zs : List Int) (hz : zs.length ≤ 1048576) : NumsF (w.alloc (.cells (intV zs).toArray 3)) (some ⟨w.heap.size, 0, none⟩) zs.length zs.length zs := by
  refine ⟨⟨rfl, ?_⟩, Nat.le_refl _, fun h => by cases h⟩
  intro h
  refine ⟨w.heap.size, 0, rfl, by simp, fun k hk => ?_⟩
  rw [cell_of_row _ _ _ _ _ _ (heap_alloc_new w _)]
  simp [intV, List.getD, hk]
set_option maxHeartbeats 4000000 in
theorem knows9_any {T : World → Nat → Addr → Vw → Nat → Bool → Prop} (V : ViewSays9) (S : OdoSays T) (w : World) : Calls Try.prog 7 #[] w (TellG (.bool true) w) := by
  have HV := Lib.hid V
  have HS := Lib.hid S
  obtain ⟨w1, hw1⟩ : ∃ w1, w1 = w.alloc (.cells #[.int .i64 2, .int .i64 2] 3) := ⟨_, rfl⟩
  have HN1 := Lib.hid (show NumsF w1 (some ⟨w.heap.size, 0, none⟩) 2 2 [2, 2] by rw [hw1]; exact lit_numsF9 w [2, 2] (by simp))
  have HG1 := Lib.hid (show w.grownBy w1 none by rw [hw1]; exact World.grownBy_alloc w _ none)
  have HW1 := Lib.hid hw1
  clear hw1
  go_enter Try.func7, Try.ntmps7
  go_wp2_with fail
  rw [← HW1.out]
  refine (HV.out.new _ _ _ [2, 2] w1 HN1.out (by omega)).mono ?_
  rintro e w2 ⟨A, n, c, A', n', c', rfl, h, h', hg⟩
  rw [k9new] at h h' ⊢
  dsimp only at h h' ⊢
  obtain rfl : n = 2 := h.len.symm
  obtain rfl : n' = 2 := h'.len.symm
  have HF2 := Lib.hid (show ViewF w2 A 2 c A' 2 c' ⟨[2, 2], [2, 1], 0⟩ from ⟨h, h', by omega, by omega⟩)
  have HG2 := Lib.hid (grown_join HG1.out hg (.inr (by simp)))
  clear h h' hg
  go_upto_region 2 with fail
  obtain ⟨w3, hw3⟩ : ∃ w3, w3 = w2.alloc (.cells #[.slice A 2 c, .slice A' 2 c', .int .i64 0] 34) := ⟨_, rfl⟩
  rw [← hw3]
  have HX3 : Hid (Box w3 w2.heap.size 34 #[.slice A 2 c, .slice A' 2 c', .int .i64 0]) := Lib.hid (by rw [hw3]; exact Box.fresh w2 _ _)
  have hg23 : w2.grownBy w3 none := by rw [hw3]; exact World.grownBy_alloc w2 _ none
  have HG3 := Lib.hid (grown_join HG2.out hg23 (.inr (by simp)))
  have HF3 := Lib.hid (HF2.out.grow hg23)
  clear hw3 hg23
  obtain ⟨w4, hw4⟩ : ∃ w4, w4 = w3.alloc (.cells #[.int .i64 1, .int .i64 0] 3) := ⟨_, rfl⟩
  have HN4 := Lib.hid (show NumsF w4 (some ⟨w3.heap.size, 0, none⟩) 2 2 [1, 0] by rw [hw4]; exact lit_numsF9 w3 [1, 0] (by simp))
  have hg34 : w3.grownBy w4 none := by rw [hw4]; exact World.grownBy_alloc w3 _ none
  have HG4 := Lib.hid (grown_join HG3.out hg34 (.inr (by simp)))
  have HF4 := Lib.hid (HF3.out.grow hg34)
  have HW4 := Lib.hid hw4
  clear hw4 hg34
  have x0 := HX3.out.get 0
  have x1 := HX3.out.get 1
  have x2 := HX3.out.get 2
  go_wp2_with fail
  rw [← HW4.out]
  refine (HV.out.permute _ _ _ _ _ _ ⟨[2, 2], [2, 1], 0⟩ _ _ _ [1, 0] w4 HF4.out ⟨by decide, by decide⟩ HN4.out (by omega) (fun z hz => by simp at hz; rcases hz with rfl | rfl <;> exact ⟨by decide, by decide⟩)).mono ?_
  rintro e w5 ⟨B, n, d, B', n', d', rfl, h, h', hg⟩
  rw [k9perm] at h h' ⊢
  dsimp only at h h' ⊢
  obtain rfl : n = 2 := h.len.symm
  obtain rfl : n' = 2 := h'.len.symm
  have HF5 := Lib.hid (show ViewF w5 B 2 d B' 2 d' ⟨[2, 2], [1, 2], 0⟩ from ⟨h, h', by omega, by omega⟩)
  have HG5 := Lib.hid (grown_join HG4.out hg (.inr (by simp)))
  clear h h' hg x0 x1 x2
  go_upto_region 3 with fail
  obtain ⟨w6, hw6⟩ : ∃ w6, w6 = w5.alloc (.cells #[.slice B 2 d, .slice B' 2 d', .int .i64 0] 34) := ⟨_, rfl⟩
  rw [← hw6]
  have HX6 : Hid (Box w6 w5.heap.size 34 #[.slice B 2 d, .slice B' 2 d', .int .i64 0]) := Lib.hid (by rw [hw6]; exact Box.fresh w5 _ _)
  have hg56 : w5.grownBy w6 none := by rw [hw6]; exact World.grownBy_alloc w5 _ none
  have HG6 := Lib.hid (grown_join HG5.out hg56 (.inr (by simp)))
  have HF6 := Lib.hid (HF5.out.grow hg56)
  clear hw6 hg56
  have x0 := HX6.out.get 0
  have x1 := HX6.out.get 1
  have x2 := HX6.out.get 2
  go_wp2_with fail
  refine (HS.out.collect _ _ _ _ _ _ ⟨[2, 2], [1, 2], 0⟩ w6 HF6.out ⟨by decide, by decide⟩).mono ?_
  rintro e w7 ⟨D, m, f, rfl, h, hg⟩
  rw [k9col] at h
  obtain rfl : m = 4 := h.len.symm
  have HG7 := Lib.hid (grown_join HG6.out hg (.inr (by simp)))
  clear hg x0 x1 x2
  obtain ⟨w8, hw8⟩ : ∃ w8, w8 = w7.alloc (.cells #[.int .i64 0, .int .i64 2, .int .i64 1, .int .i64 3] 3) := ⟨_, rfl⟩
  have HN8 := Lib.hid (show NumsF w8 (some ⟨w7.heap.size, 0, none⟩) 4 4 [0, 2, 1, 3] by rw [hw8]; exact lit_numsF9 w7 [0, 2, 1, 3] (by simp))
  have hg78 : w7.grownBy w8 none := by rw [hw8]; exact World.grownBy_alloc w7 _ none
  have HG8 := Lib.hid (grown_join HG7.out hg78 (.inr (by simp)))
  have HD8 := Lib.hid (h.grow hg78)
  have HW8 := Lib.hid hw8
  clear hw8 hg78 h
  go_wp2_with fail
  rw [← HW8.out]
  refine (ints9_any D _ 4 4 f 4 [0, 2, 1, 3] [0, 2, 1, 3] _ _ w8 HD8.out.1 HN8.out.1 (by omega) (by omega)).mono ?_
  rintro e w9 ⟨rfl, m, rfl⟩
  rw [decide_eq_true rfl]
  go_wp2_with fail
  go_ret
  exact ⟨rfl, grown_drewN HG8.out m⟩
end Go.Proofs.Ytdjenakmdjiknaa
end

/-! Layer 9: a range over a function that yields what lies in memory: what is said of a yielded value holds in the world of its round (R). -/
section
namespace Go.Proofs.Ytdjenakmdjiknaa
open Go.ChangeShapes Go.WideShapes Go.ChangeAt Go.RowKit Go.Shelf
set_option linter.unusedVariables false
set_option maxRecDepth 100000

/-- what is said stands, whatever is written into blocks from B on. -/
def OwnAll {β : Type} (B : Nat) (I : β → World → Prop) : Prop := ∀ s W W' row, I s W → W.grownBy W' row → (∀ r, row = some r → B ≤ r ∧ True) → I s W'
theorem OwnAll.put {β : Type} {B : Nat} {I : β → World → Prop} (h : OwnAll B I) {s : β} {W : World} {l : Nat} (o' : Obj) (hs : I s W) (hB : B ≤ l) : I s (W.putObj l o') :=
  h s W _ (some l) hs (grownBy_putObj' W l o') (fun r e => by cases e; exact ⟨hB, trivial⟩)
theorem OwnAll.alloc {β : Type} {B : Nat} {I : β → World → Prop} (h : OwnAll B I) {s : β} {W : World} (o : Obj) (hs : I s W) : I s (W.alloc o) :=
  h s W _ none hs (World.grownBy_alloc W o none) (fun r e => by cases e)
/-- a function yields these: in each round what R says of the value holds. -/
def SeqTells {α : Type} (n gf : Nat) (lb : Array Value) (encs : α → Array Value) (Kp : World → World → Prop) (R : α → World → Prop) (S Sp : List α → Prop) (N : Nat) (w : World) : Prop :=
  ∀ (l : Nat) (J Jx : List α → World → Prop) (W : World), Below w.heap.size w W → OwnAll W.heap.size J → OwnAll W.heap.size Jx →
    (∀ pre x W1, J pre W1 → R x W1 → pre.length < N → YieldAt Fence.wide (n - 1) Try.prog l (encs x) W1 fun e W' => (e = .returned (.bool true) ∧ J (pre ++ [x]) W' ∧ Kp W1 W' ∧ KeepsFrom W.heap.size W1 W') ∨ (e = .returned (.bool false) ∧ Jx (pre ++ [x]) W' ∧ KeepsFrom W.heap.size W1 W')) →
    J [] W → CallsIn Fence.wide n Try.prog gf (#[.func (.yield l) #[] #[]] ++ lb) W fun e W' => (∃ v, e = .returned v) ∧ ((∃ xs, S xs ∧ J xs W') ∨ ∃ pre, Sp pre ∧ Jx pre W')
/-- what a body leaves: what is no cells, and lies from block B on, is as it was. -/
def ownPostT {α : Type} (B : Nat) (Kp : World → World → Prop) (I : List α → World → Prop) (Ix : Code → List α → World → Prop) (xs : List α) (W : World) : Exit → Act → World → Prop
  | .normal, _, W' => KeepsFrom B W W' ∧ Kp W W' ∧ I xs W'
  | .ret, _, W' => KeepsFrom B W W' ∧ Ix .ret xs W'
  | .exit id, _, W' => KeepsFrom B W W' ∧ Ix (.exit id) xs W'
  | .goto t, _, W' => KeepsFrom B W W' ∧ Ix (.goto t) xs W'
  | .panic _, _, _ => False
  | .outgrown, _, _ => False
theorem postT_of {α : Type} {B : Nat} {Kp : World → World → Prop} {I : List α → World → Prop} {Ix : Code → List α → World → Prop} {xs : List α} {W : World} : ∀ (e : Exit) (a : Act) (W' : World), ownPostK Kp I Ix xs W e a W' → ownPostT B Kp I Ix xs W e a W' := fun e a W' h => by
  cases e with
  | normal => exact ⟨h.1.from _, h.2⟩
  | ret => exact ⟨h.1.from _, h.2⟩
  | exit id => exact ⟨h.1.from _, h.2⟩
  | goto t => exact ⟨h.1.from _, h.2⟩
  | panic ch => exact h.elim
  | outgrown => exact h.elim
/-- the books of a range: the record of the loop at D + 1, its deferred calls at D. -/
structure Booked (D : Nat) (r : Loop) (W : World) : Prop where
  loop : W.heap[D + 1]? = some (.loop r)
  late : W.heap[D]? = some (.deferred (some []))
theorem Booked.small {D : Nat} {r : Loop} {W : World} (h : Booked D r W) : D + 1 < W.heap.size := (Array.getElem?_eq_some_iff.1 h.loop).1
theorem Booked.rows {D : Nat} {r : Loop} {W W' : World} {row : Option Nat} (h : Booked D r W) (hg : W.grownBy W' row) (hr : ∀ z, row = some z → D + 1 < z) : Booked D r W' :=
  ⟨(hg.block _ h.small fun e => by have := hr _ e.symm; omega).trans h.loop, (hg.block _ (by have := h.small; omega) fun e => by have := hr _ e.symm; omega).trans h.late⟩
theorem Booked.turn {D : Nat} {r : Loop} {W : World} (h : Booked D r W) (r' : Loop) : Booked D r' (W.putObj (D + 1) (.loop r')) :=
  ⟨World.putObj_heap_same h.small, (World.putObj_heap_other (by omega)).trans h.late⟩
theorem Booked.others {D : Nat} {r : Loop} {W W' : World} (h : Booked D r W) (hk : KeepsFrom D W W') : Booked D r W' := ⟨hk.same _ _ (by omega) h.loop rfl, hk.same _ _ (Nat.le_refl _) h.late rfl⟩
theorem keeps_less {B B' : Nat} {W W' : World} (h : KeepsFrom B W W') (hB : B ≤ B') : KeepsFrom B' W W' := ⟨h.size, fun k o hk ho hc => h.same k o (by omega) ho hc⟩
theorem keeps_put {B l : Nat} (W : World) (o : Obj) (h : l < B) : KeepsFrom B W (W.putObj l o) := KeepsFrom.of_grownBy (grownBy_putObj' W l o) (fun j e => by injection e with e; omega)
theorem range_told {α : Type} {n : Nat} (h1 : 1 ≤ n) {g : Operand} {ps : Array Tmp} {assign body : Code} {Q : Exit → Act → World → Prop} {a : Act} {w : World} {gf : Nat} {lb : Array Value} (hg : a.eval g = .func (.func gf) #[] lb) (eg : ∀ (args : Array Value) (W : World), (callFunc gf args).run Try.prog W = .ok (.enter gf args) W)
    {encs : α → Array Value} {Kp : World → World → Prop} {R : α → World → Prop} {S Sp : List α → Prop} {N : Nat} (hseq : SeqTells (n - 1) gf lb encs Kp R S Sp N w)
    (hKt : ∀ {A B C : World}, Kp A B → Kp B C → Kp A C) (hKb : ∀ (W : World) (l : Nat) (o o' : Obj), w.heap.size ≤ l → W.heap[l]? = some o → o.isCells = false → o.isWalk = false → Kp W (W.putObj l o'))
    (hR : ∀ (x : α) (W : World) (l : Nat) (o o' : Obj), R x W → W.heap[l]? = some o → o.isCells = false → R x (W.putObj l o')) (hps : ∀ x, (encs x).size = ps.size)
    (I : List α → World → Prop) (Ix : Code → List α → World → Prop) (hI : OwnAll w.heap.size I) (hIx : ∀ c, OwnAll w.heap.size (Ix c)) (h0 : I [] w) (a₁ : α → Act)
    (hassign : ∀ (l : Nat) (x : α) (W : World) (K : Act → World → Prop), K (a₁ x) W → assign.wpIn (Fence.wide.inRound l) (n - 1 - 1) Try.prog (Exit.then K (fun _ _ _ => False)) { tmps := (ps.zip (encs x)).foldl (fun t (p, v) => t.setIfInBounds p v) a.tmps, defers := [] } W)
    (hbody : ∀ (l : Nat) (pre : List α) (x : α) (W : World), I pre W → R x W → pre.length < N → body.wpIn (Fence.wide.inRound l) (n - 1 - 1) Try.prog (ownPostT w.heap.size Kp I Ix (pre ++ [x]) W) (a₁ x) W)
    (hdone : ∀ (D : Nat) (xs : List α) (W : World), w.heap.size ≤ D → S xs → I xs W → W.heap[D]? = some (.deferred (some [])) → Q .normal { a with defers := { target := .collected D, args := #[] } :: a.defers } W)
    (hstop : ∀ (D : Nat) (c : Code) (pre : List α) (W : World), w.heap.size ≤ D → Sp pre → Ix c pre W → W.heap[D]? = some (.deferred (some [])) → c.wpIn Fence.wide n Try.prog Q { a with defers := { target := .collected D, args := #[] } :: a.defers } W) :
    (Code.rangeFunc g ps assign body).wpIn Fence.wide n Try.prog Q a w := by
  refine wpIn_rangeFunc fun fn hfn => ?_
  obtain ⟨D, hD⟩ : ∃ D, D = w.heap.size := ⟨_, rfl⟩
  obtain ⟨rc, hrc⟩ : ∃ rc : LoopState → Option Code → Loop, rc = fun s p => { state := s, pending := p, fn := fn, tmps := a.tmps, params := ps, assign := assign, body := body, defers := D } := ⟨_, rfl⟩
  obtain ⟨V, hV⟩ : ∃ V, V = (w.alloc (.deferred (some []))).alloc (.loop (rc .ready none)) := ⟨_, rfl⟩
  have hgV : w.grownBy V none := by rw [hV]; exact grown_alloc (World.grownBy_alloc w _ none) _
  have hBV : Booked D (rc .ready none) V := by
    constructor
    · have h := World.alloc_heap_new (w.alloc (.deferred (some []))) (.loop (rc .ready none))
      rw [World.size_alloc, ← hD, ← hV] at h
      exact h
    · rw [hV, hD]
      exact (Below.heap_alloc _ _ _ (by simp)).trans (World.alloc_heap_new w _)
  have hIV : I [] V := by rw [hV]; exact hI.alloc _ (hI.alloc _ h0)
  have hVs : V.heap.size = w.heap.size + 2 := by rw [hV]; simp
  -- a turn of the record leaves what the caller says
  have turnI : ∀ {pre W r} (r' : Loop), I pre W → Booked D r W → I pre (W.putObj (D + 1) (.loop r')) := fun r' h hb => hI.put _ h (by omega)
  have turnX : ∀ {c pre W r} (r' : Loop), Ix c pre W → Booked D r W → Ix c pre (W.putObj (D + 1) (.loop r')) := fun r' h hb => (hIx _).put _ h (by omega)
  have far : ∀ {row : Option Nat}, (∀ z, row = some z → V.heap.size ≤ z ∧ True) → (∀ z, row = some z → w.heap.size ≤ z ∧ True) ∧ ∀ z, row = some z → D + 1 < z := fun hr => ⟨fun z e => ⟨by have := (hr z e).1; omega, trivial⟩, fun z e => by have := (hr z e).1; omega⟩
  refine ⟨D + 1, [{ target := .collected D, args := #[] }], V, { target := .fn (.func gf) lb, args := #[.func (.yield (D + 1)) #[] #[]] }, V, gf, #[.func (.yield (D + 1)) #[] #[]] ++ lb, V, ?_, ?_, ?_, ?_, fun _ => h1, ?_⟩
  · rw [hV, hrc, hD]
    exact run_enterLoop_outer _ _ _ _ _
  · simp only [resolve, hg]
    simp [go_sem]
  · intro f' hf'
    exact trivial
  · simp [invoke, go_sem, eg]
  refine (hseq (D + 1) (fun pre W => I pre W ∧ Booked D (rc .ready none) W) (fun pre W => ∃ c, Ix c pre W ∧ Booked D (rc .done (some c)) W) V (below_of_grown hgV)
    (fun s A B row hs hg' hr => ⟨hI s A B row hs.1 hg' (far hr).1, hs.2.rows hg' (far hr).2⟩)
    (fun s A B row hs hg' hr => by
      obtain ⟨c, hc, hb⟩ := hs
      exact ⟨c, hIx c s A B row hc hg' (far hr).1, hb.rows hg' (far hr).2⟩) ?_ ⟨hIV, hBV⟩).mono ?_
  · rintro pre x W ⟨hi, hb⟩ hx hlen
    have hy := run_yield (P := Try.prog) (args := encs x) hb.loop (by rw [hrc]; exact hps x)
    rw [hrc] at hy
    obtain ⟨busy, hbusy⟩ : ∃ busy : Loop, busy = { rc .ready none with state := .busy } := ⟨_, rfl⟩
    have hB := hb.turn busy
    refine ⟨fn, _, assign, body, hy, roundIn_of_wpIn hfn (hassign _ x W _ ⟨W.putObj (D + 1) (.loop busy), ?_, ?_⟩)⟩
    · rw [hbusy]
      exact run_beginRound hb.loop (by rw [hrc])
    have kb : Kp W (W.putObj (D + 1) (.loop busy)) := hKb _ _ _ _ (by omega) hb.loop rfl rfl
    -- the end of a round: the record is ready again, or done
    have ends : ∀ (jump : Option Code) (W3 : World), KeepsFrom D (W.putObj (D + 1) (.loop busy)) W3 → ∃ r3 : Loop, r3 = rc (if jump.isNone then .ready else .done) jump ∧ Booked D busy W3 ∧
        (Instr.endRound (D + 1) jump).run Try.prog W3 = .ok (.bool jump.isNone) (W3.putObj (D + 1) (.loop r3)) := fun jump W3 hk => by
      have h3 := hB.others hk
      refine ⟨_, rfl, h3, ?_⟩
      have h4 := run_endRound (P := Try.prog) jump h3.loop
      rw [hbusy, hrc] at h4
      rw [hrc]
      exact h4
    refine wpIn_mono (hbody _ pre x _ (turnI busy hi hb) (hR x W _ _ _ hx hb.loop rfl) hlen) fun e a3 W3 hp => ?_
    cases e with
    | normal =>
      obtain ⟨hk, hkp, hi3⟩ := hp
      rw [← hD] at hk
      obtain ⟨r3, hr3, hb3, hrun⟩ := ends none W3 hk
      have hkf := ((keeps_put W (.loop busy) (show D + 1 < V.heap.size by omega)).trans (keeps_less hk (by omega))).trans (keeps_put W3 (.loop (rc .ready none)) (show D + 1 < V.heap.size by omega))
      subst hr3
      exact ⟨_, _, hrun, .inl ⟨rfl, ⟨turnI _ hi3 hb3, hb3.turn _⟩, hKt (hKt kb hkp) (hKb _ _ _ _ (by omega) hb3.loop rfl rfl), hkf⟩⟩
    | ret =>
      obtain ⟨hk, hi3⟩ := hp
      rw [← hD] at hk
      obtain ⟨r3, hr3, hb3, hrun⟩ := ends (some .ret) W3 hk
      subst hr3
      have hkf := ((keeps_put W (.loop busy) (show D + 1 < V.heap.size by omega)).trans (keeps_less hk (by omega))).trans (keeps_put W3 (.loop (rc .done (some .ret))) (show D + 1 < V.heap.size by omega))
      exact ⟨_, _, hrun, .inr ⟨rfl, ⟨.ret, turnX _ hi3 hb3, hb3.turn _⟩, hkf⟩⟩
    | exit id =>
      obtain ⟨hk, hi3⟩ := hp
      rw [← hD] at hk
      obtain ⟨r3, hr3, hb3, hrun⟩ := ends (some (.exit id)) W3 hk
      subst hr3
      have hkf := ((keeps_put W (.loop busy) (show D + 1 < V.heap.size by omega)).trans (keeps_less hk (by omega))).trans (keeps_put W3 (.loop (rc .done (some (.exit id)))) (show D + 1 < V.heap.size by omega))
      exact ⟨_, _, hrun, .inr ⟨rfl, ⟨(.exit id), turnX _ hi3 hb3, hb3.turn _⟩, hkf⟩⟩
    | goto t =>
      obtain ⟨hk, hi3⟩ := hp
      rw [← hD] at hk
      obtain ⟨r3, hr3, hb3, hrun⟩ := ends (some (.goto t)) W3 hk
      subst hr3
      have hkf := ((keeps_put W (.loop busy) (show D + 1 < V.heap.size by omega)).trans (keeps_less hk (by omega))).trans (keeps_put W3 (.loop (rc .done (some (.goto t)))) (show D + 1 < V.heap.size by omega))
      exact ⟨_, _, hrun, .inr ⟨rfl, ⟨(.goto t), turnX _ hi3 hb3, hb3.turn _⟩, hkf⟩⟩
    | panic ch => exact hp.elim
    | outgrown => exact hp.elim
  · rintro e W2 ⟨⟨v, rfl⟩, hend⟩
    rcases hend with ⟨xs, hS, hi, hb⟩ | ⟨pre, hSp, c, hi, hb⟩
    · have h2 := run_endLoop (P := Try.prog) hb.loop (by rw [hrc]; simp)
      rw [hrc] at h2
      exact ⟨none, _, h2, hdone D xs _ (by omega) hS (turnI _ hi hb) (hb.turn _).late⟩
    · have h2 := run_endLoop (P := Try.prog) hb.loop (by rw [hrc]; simp)
      rw [hrc] at h2
      exact ⟨some c, _, h2, hstop D c pre _ (by omega) hSp (turnX _ hi hb) (hb.turn _).late⟩
/-- .. where nothing is said of the values. -/
def SeqOwns {α : Type} (n gf : Nat) (lb : Array Value) (encs : α → Array Value) (Kp : World → World → Prop) (S Sp : List α → Prop) (N : Nat) (w : World) : Prop := SeqTells n gf lb encs Kp (fun _ _ => True) S Sp N w
theorem range_own {α : Type} {n : Nat} (h1 : 1 ≤ n) {g : Operand} {ps : Array Tmp} {assign body : Code} {Q : Exit → Act → World → Prop} {a : Act} {w : World} {gf : Nat} {lb : Array Value} (hg : a.eval g = .func (.func gf) #[] lb) (eg : ∀ (args : Array Value) (W : World), (callFunc gf args).run Try.prog W = .ok (.enter gf args) W)
    {encs : α → Array Value} {Kp : World → World → Prop} {S Sp : List α → Prop} {N : Nat} (hseq : SeqOwns (n - 1) gf lb encs Kp S Sp N w)
    (hKt : ∀ {A B C : World}, Kp A B → Kp B C → Kp A C) (hKb : ∀ (W : World) (l : Nat) (o o' : Obj), w.heap.size ≤ l → W.heap[l]? = some o → o.isCells = false → o.isWalk = false → Kp W (W.putObj l o')) (hps : ∀ x, (encs x).size = ps.size)
    (I : List α → World → Prop) (Ix : Code → List α → World → Prop) (hI : OwnAll w.heap.size I) (hIx : ∀ c, OwnAll w.heap.size (Ix c)) (h0 : I [] w) (a₁ : α → Act)
    (hassign : ∀ (l : Nat) (x : α) (W : World) (K : Act → World → Prop), K (a₁ x) W → assign.wpIn (Fence.wide.inRound l) (n - 1 - 1) Try.prog (Exit.then K (fun _ _ _ => False)) { tmps := (ps.zip (encs x)).foldl (fun t (p, v) => t.setIfInBounds p v) a.tmps, defers := [] } W)
    (hbody : ∀ (l : Nat) (pre : List α) (x : α) (W : World), I pre W → pre.length < N → body.wpIn (Fence.wide.inRound l) (n - 1 - 1) Try.prog (ownPostK Kp I Ix (pre ++ [x]) W) (a₁ x) W)
    (hdone : ∀ (D : Nat) (xs : List α) (W : World), w.heap.size ≤ D → S xs → I xs W → W.heap[D]? = some (.deferred (some [])) → Q .normal { a with defers := { target := .collected D, args := #[] } :: a.defers } W)
    (hstop : ∀ (D : Nat) (c : Code) (pre : List α) (W : World), w.heap.size ≤ D → Sp pre → Ix c pre W → W.heap[D]? = some (.deferred (some [])) → c.wpIn Fence.wide n Try.prog Q { a with defers := { target := .collected D, args := #[] } :: a.defers } W) :
    (Code.rangeFunc g ps assign body).wpIn Fence.wide n Try.prog Q a w :=
  range_told h1 hg eg hseq hKt hKb (fun _ _ _ _ _ _ _ _ => trivial) hps I Ix hI hIx h0 a₁ hassign (fun l pre x W hi _ hlt => wpIn_mono (hbody l pre x W hi hlt) postT_of) hdone hstop
end Go.Proofs.Ytdjenakmdjiknaa
end

/-! Layer 9: functions that yield, as values: what is asked of Offsets and Pairs, whatever the body of a range turns in blocks X of its caller's. -/
section
namespace Go.Proofs.Ytdjenakmdjiknaa
open Go.ChangeShapes Go.WideShapes Go.ChangeAt Go.RowKit Go.Shelf
set_option linter.unusedVariables false
set_option maxRecDepth 100000

/-- cells, and walks over maps, outside X stay as they are. -/
def KeepX (X : Nat → Prop) (A C : World) : Prop := A.heap.size ≤ C.heap.size ∧ ∀ (x : Nat) (o : Obj), A.heap[x]? = some o → ¬ X x → (o.isCells = true ∨ o.isWalk = true) → C.heap[x]? = some o
theorem keepX_t {X : Nat → Prop} {A B C : World} (h : KeepX X A B) (k : KeepX X B C) : KeepX X A C := ⟨Nat.le_trans h.1 k.1, fun x o hx hn ho => k.2 x o (h.2 x o hx hn ho) hn ho⟩
theorem keepX_b {X : Nat → Prop} {w : World} (W : World) (l : Nat) (o o' : Obj) (_ : w.heap.size ≤ l) (h : W.heap[l]? = some o) (hc : o.isCells = false) (hw : o.isWalk = false) : KeepX X W (W.putObj l o') := by
  have hg := grownBy_putObj' W l o'
  refine ⟨hg.size, fun x o1 hx hn ho => ?_⟩
  by_cases e : x = l
  · subst e
    rw [h] at hx
    injection hx with hx
    subst hx
    rcases ho with ho | ho
    · rw [hc] at ho; cases ho
    · rw [hw] at ho; cases ho
  · exact (hg.block x (Array.getElem?_eq_some_iff.1 hx).1 (fun e2 => e (by injection e2))).trans hx
theorem keepX_refl (X : Nat → Prop) (A : World) : KeepX X A A := ⟨Nat.le_refl _, fun _ _ h _ _ => h⟩
theorem keepX_put {X : Nat → Prop} {A B : World} (h : KeepX X A B) {b j : Nat} (hb : X b) (u : Value) : KeepX X A (B.setCell ⟨b, j, none⟩ u) := by
  refine ⟨by simp [World.setCell]; exact h.1, fun x o hx hn ho => ?_⟩
  have hne : b ≠ x := fun e => hn (e ▸ hb)
  have h1 := h.2 x o hx hn ho
  simp [World.setCell, Array.getElem?_modify, hne]
  exact h1
theorem keepX_grown {X : Nat → Prop} {A B : World} (h : A.grownBy B none) : KeepX X A B := ⟨h.size, fun x o hx _ _ => (h.block x (Array.getElem?_eq_some_iff.1 hx).1 (by simp)).trans hx⟩
/-- a function value is told that yields these, one by one, in every world grown out of it. Away: where the body may write. -/
def SeqIs {α : Type} (encs : α → Array Value) (xs : List α) (Away : Nat → Prop) (w : World) (e : Ending) (w' : World) : Prop :=
  w.grownBy w' none ∧ ∃ (gf : Nat) (lb : Array Value), e = .returned (.func (.func gf) #[] lb) ∧ (∀ (args : Array Value) (W : World), (callFunc gf args).run Try.prog W = .ok (.enter gf args) W) ∧
    ∀ (n : Nat) (W : World) (X : Nat → Prop), 6 ≤ n → w'.grownBy W none → (∀ x, X x → x < w.heap.size ∧ Away x) → SeqOwns n gf lb encs (KeepX X) (fun ys => ys = xs) (fun pre => ∃ k, k ≤ xs.length ∧ pre = xs.take k) xs.length W
/-- the blocks of a view's lists. -/
def Clear (A : Option Addr) (n : Nat) (A' : Option Addr) (n' x : Nat) : Prop := (0 < n → A.map (·.block) ≠ some x) ∧ (0 < n' → A'.map (·.block) ≠ some x)
def enc1 (z : Int) : Array Value := #[.int .i64 z]
def enc2 (z : Int × Int) : Array Value := #[.int .i64 z.1, .int .i64 z.2]
theorem clear_new {w : World} {A A' : Option Addr} {n c n' c' : Nat} {v : Vw} {x : Nat} (h : ViewF w A n c A' n' c' v) (hx : w.heap.size ≤ x) : Clear A n A' n' x := by
  refine ⟨fun h0 e => ?_, fun h0 e => ?_⟩
  · obtain ⟨b, off, e1, hb, _⟩ := h.1.1.2.at_ h0
    rw [e1] at e
    injection e with e
    have e' : b = x := e
    omega
  · obtain ⟨b, off, e1, hb, _⟩ := h.2.1.1.2.at_ h0
    rw [e1] at e
    injection e with e
    have e' : b = x := e
    omega
/-- both places of each cell of two views of one shape. -/
def pairsL (v u : Vw) : List (Int × Int) := if (rightV v && rightV u && decide (v.sh = u.sh)) = true then (colL v).zip (colL u) else []
structure RangeSays : Prop where
  offsets : ∀ A n c A' n' c' v w, ViewF w A n c A' n' c' v → I64 v.off → Calls Try.prog 24 #[.agg #[.slice A n c, .slice A' n' c', .int .i64 v.off]] w (SeqIs enc1 (colL v) (Clear A n A' n') w)
  pairs : ∀ A n c A' n' c' v B m d B' m' d' u w, ViewF w A n c A' n' c' v → I64 v.off → ViewF w B m d B' m' d' u → I64 u.off → Calls Try.prog 23 #[.agg #[.slice A n c, .slice A' n' c', .int .i64 v.off], .agg #[.slice B m d, .slice B' m' d', .int .i64 u.off]] w
    (SeqIs enc2 (pairsL v u) (fun x => Clear A n A' n' x ∧ Clear B m B' m' x) w)
end Go.Proofs.Ytdjenakmdjiknaa
end
