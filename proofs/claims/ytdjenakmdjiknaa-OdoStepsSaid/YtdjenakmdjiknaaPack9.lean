/-
  Texts of this claim, one behind the other.
-/
import Derived.Shelf.Abstract
import Derived.Shelf.RegionOpen
import Derived.OwnWalkIn
import Derived.TacticsInMore
import Derived.LoopNIn
import Derived.LoopIn
import Derived.RangeFuncWrites
import Derived.Lib.AppendZeros
import Derived.Lib.SliceRun
import Derived.Lib.AppendZerosOnto
import Derived.Lib.Overlaps
import Derived.Laws.Externs
import Derived.Test.YtdjenakmdjiknaaPack1
import Derived.Test.YtdjenakmdjiknaaPack2
import Derived.Test.YtdjenakmdjiknaaPack3
import Derived.Test.YtdjenakmdjiknaaPack4
import Derived.Test.YtdjenakmdjiknaaPack5
import Derived.Test.YtdjenakmdjiknaaPack6
import Derived.Test.YtdjenakmdjiknaaPack7
import Derived.Test.YtdjenakmdjiknaaPack8

/-! Layer 9: a range over a function that yields what lies in memory: what is said of a yielded value holds in the world of its round (R). -/
section
namespace Go.Proofs.Ytdjenakmdjiknaa
open Go.ChangeShapes Go.WideShapes Go.ChangeAt Go.RowKit Go.Shelf
set_option linter.unusedVariables false
set_option maxRecDepth 100000

/-- what is said stands, whatever is written into blocks from B on. -/
def OwnAll {β : Type} (B : Nat) (I : β → World → Prop) : Prop := ∀ s W W' row, I s W → W.grownBy W' row → (∀ r, row = some r → B ≤ r ∧ True) → I s W'
theorem OwnAll.put {β : Type} {B : Nat} {I : β → World → Prop} (h : OwnAll B I) {s : β} {W : World} {l : Nat} (o' : Obj) (hs : I s W) (hB : B ≤ l) : I s (W.putObj l o') :=
  h s W _ (some l) hs (grownBy_putObj' W l o') (fun r e => by cases e; exact ⟨hB, trivial⟩)
theorem OwnAll.alloc {β : Type} {B : Nat} {I : β → World → Prop} (h : OwnAll B I) {s : β} {W : World} (o : Obj) (hs : I s W) : I s (W.alloc o) :=
  h s W _ none hs (World.grownBy_alloc W o none) (fun r e => by cases e)
/-- a function yields these: in each round what R says of the value holds. -/
def SeqTells {α : Type} (n gf : Nat) (lb : Array Value) (encs : α → Array Value) (Kp : World → World → Prop) (R : α → World → Prop) (S Sp : List α → Prop) (N : Nat) (w : World) : Prop :=
  ∀ (l : Nat) (J Jx : List α → World → Prop) (W : World), Below w.heap.size w W → OwnAll W.heap.size J → OwnAll W.heap.size Jx →
    (∀ pre x W1, J pre W1 → R x W1 → pre.length < N → YieldAt Fence.wide (n - 1) Try.prog l (encs x) W1 fun e W' => (e = .returned (.bool true) ∧ J (pre ++ [x]) W' ∧ Kp W1 W' ∧ KeepsFrom W.heap.size W1 W') ∨ (e = .returned (.bool false) ∧ Jx (pre ++ [x]) W' ∧ KeepsFrom W.heap.size W1 W')) →
    J [] W → CallsIn Fence.wide n Try.prog gf (#[.func (.yield l) #[] #[]] ++ lb) W fun e W' => (∃ v, e = .returned v) ∧ ((∃ xs, S xs ∧ J xs W') ∨ ∃ pre, Sp pre ∧ Jx pre W')
/-- what a body leaves: what is no cells, and lies from block B on, is as it was. -/
def ownPostT {α : Type} (B : Nat) (Kp : World → World → Prop) (I : List α → World → Prop) (Ix : Code → List α → World → Prop) (xs : List α) (W : World) : Exit → Act → World → Prop
  | .normal, _, W' => KeepsFrom B W W' ∧ Kp W W' ∧ I xs W'
  | .ret, _, W' => KeepsFrom B W W' ∧ Ix .ret xs W'
  | .exit id, _, W' => KeepsFrom B W W' ∧ Ix (.exit id) xs W'
  | .goto t, _, W' => KeepsFrom B W W' ∧ Ix (.goto t) xs W'
  | .panic _, _, _ => False
  | .outgrown, _, _ => False
theorem postT_of {α : Type} {B : Nat} {Kp : World → World → Prop} {I : List α → World → Prop} {Ix : Code → List α → World → Prop} {xs : List α} {W : World} : ∀ (e : Exit) (a : Act) (W' : World), ownPostK Kp I Ix xs W e a W' → ownPostT B Kp I Ix xs W e a W' := fun e a W' h => by
  cases e with
  | normal => exact ⟨h.1.from _, h.2⟩
  | ret => exact ⟨h.1.from _, h.2⟩
  | exit id => exact ⟨h.1.from _, h.2⟩
  | goto t => exact ⟨h.1.from _, h.2⟩
  | panic ch => exact h.elim
  | outgrown => exact h.elim
/-- the books of a range: the record of the loop at D + 1, its deferred calls at D. -/
structure Booked (D : Nat) (r : Loop) (W : World) : Prop where
  loop : W.heap[D + 1]? = some (.loop r)
  late : W.heap[D]? = some (.deferred (some []))
theorem Booked.small {D : Nat} {r : Loop} {W : World} (h : Booked D r W) : D + 1 < W.heap.size := (Array.getElem?_eq_some_iff.1 h.loop).1
theorem Booked.rows {D : Nat} {r : Loop} {W W' : World} {row : Option Nat} (h : Booked D r W) (hg : W.grownBy W' row) (hr : ∀ z, row = some z → D + 1 < z) : Booked D r W' :=
  ⟨(hg.block _ h.small fun e => by have := hr _ e.symm; omega).trans h.loop, (hg.block _ (by have := h.small; omega) fun e => by have := hr _ e.symm; omega).trans h.late⟩
theorem Booked.turn {D : Nat} {r : Loop} {W : World} (h : Booked D r W) (r' : Loop) : Booked D r' (W.putObj (D + 1) (.loop r')) :=
  ⟨World.putObj_heap_same h.small, (World.putObj_heap_other (by omega)).trans h.late⟩
theorem Booked.others {D : Nat} {r : Loop} {W W' : World} (h : Booked D r W) (hk : KeepsFrom D W W') : Booked D r W' := ⟨hk.same _ _ (by omega) h.loop rfl, hk.same _ _ (Nat.le_refl _) h.late rfl⟩
theorem keeps_less {B B' : Nat} {W W' : World} (h : KeepsFrom B W W') (hB : B ≤ B') : KeepsFrom B' W W' := ⟨h.size, fun k o hk ho hc => h.same k o (by omega) ho hc⟩
theorem keeps_put {B l : Nat} (W : World) (o : Obj) (h : l < B) : KeepsFrom B W (W.putObj l o) := KeepsFrom.of_grownBy (grownBy_putObj' W l o) (fun j e => by injection e with e; omega)
theorem range_told {α : Type} {n : Nat} (h1 : 1 ≤ n) {g : Operand} {ps : Array Tmp} {assign body : Code} {Q : Exit → Act → World → Prop} {a : Act} {w : World} {gf : Nat} {lb : Array Value} (hg : a.eval g = .func (.func gf) #[] lb) (eg : ∀ (args : Array Value) (W : World), (callFunc gf args).run Try.prog W = .ok (.enter gf args) W)
    {encs : α → Array Value} {Kp : World → World → Prop} {R : α → World → Prop} {S Sp : List α → Prop} {N : Nat} (hseq : SeqTells (n - 1) gf lb encs Kp R S Sp N w)
    (hKt : ∀ {A B C : World}, Kp A B → Kp B C → Kp A C) (hKb : ∀ (W : World) (l : Nat) (o o' : Obj), w.heap.size ≤ l → W.heap[l]? = some o → o.isCells = false → o.isWalk = false → Kp W (W.putObj l o'))
    (hR : ∀ (x : α) (W : World) (l : Nat) (o o' : Obj), R x W → W.heap[l]? = some o → o.isCells = false → R x (W.putObj l o')) (hps : ∀ x, (encs x).size = ps.size)
    (I : List α → World → Prop) (Ix : Code → List α → World → Prop) (hI : OwnAll w.heap.size I) (hIx : ∀ c, OwnAll w.heap.size (Ix c)) (h0 : I [] w) (a₁ : α → Act)
    (hassign : ∀ (l : Nat) (x : α) (W : World) (K : Act → World → Prop), K (a₁ x) W → assign.wpIn (Fence.wide.inRound l) (n - 1 - 1) Try.prog (Exit.then K (fun _ _ _ => False)) { tmps := (ps.zip (encs x)).foldl (fun t (p, v) => t.setIfInBounds p v) a.tmps, defers := [] } W)
    (hbody : ∀ (l : Nat) (pre : List α) (x : α) (W : World), I pre W → R x W → pre.length < N → body.wpIn (Fence.wide.inRound l) (n - 1 - 1) Try.prog (ownPostT w.heap.size Kp I Ix (pre ++ [x]) W) (a₁ x) W)
    (hdone : ∀ (D : Nat) (xs : List α) (W : World), w.heap.size ≤ D → S xs → I xs W → W.heap[D]? = some (.deferred (some [])) → Q .normal { a with defers := { target := .collected D, args := #[] } :: a.defers } W)
    (hstop : ∀ (D : Nat) (c : Code) (pre : List α) (W : World), w.heap.size ≤ D → Sp pre → Ix c pre W → W.heap[D]? = some (.deferred (some [])) → c.wpIn Fence.wide n Try.prog Q { a with defers := { target := .collected D, args := #[] } :: a.defers } W) :
    (Code.rangeFunc g ps assign body).wpIn Fence.wide n Try.prog Q a w := by
  refine wpIn_rangeFunc fun fn hfn => ?_
  obtain ⟨D, hD⟩ : ∃ D, D = w.heap.size := ⟨_, rfl⟩
  obtain ⟨rc, hrc⟩ : ∃ rc : LoopState → Option Code → Loop, rc = fun s p => { state := s, pending := p, fn := fn, tmps := a.tmps, params := ps, assign := assign, body := body, defers := D } := ⟨_, rfl⟩
  obtain ⟨V, hV⟩ : ∃ V, V = (w.alloc (.deferred (some []))).alloc (.loop (rc .ready none)) := ⟨_, rfl⟩
  have hgV : w.grownBy V none := by rw [hV]; exact grown_alloc (World.grownBy_alloc w _ none) _
  have hBV : Booked D (rc .ready none) V := by
    constructor
    · have h := World.alloc_heap_new (w.alloc (.deferred (some []))) (.loop (rc .ready none))
      rw [World.size_alloc, ← hD, ← hV] at h
      exact h
    · rw [hV, hD]
      exact (Below.heap_alloc _ _ _ (by simp)).trans (World.alloc_heap_new w _)
  have hIV : I [] V := by rw [hV]; exact hI.alloc _ (hI.alloc _ h0)
  have hVs : V.heap.size = w.heap.size + 2 := by rw [hV]; simp
  -- a turn of the record leaves what the caller says
  have turnI : ∀ {pre W r} (r' : Loop), I pre W → Booked D r W → I pre (W.putObj (D + 1) (.loop r')) := fun r' h hb => hI.put _ h (by omega)
  have turnX : ∀ {c pre W r} (r' : Loop), Ix c pre W → Booked D r W → Ix c pre (W.putObj (D + 1) (.loop r')) := fun r' h hb => (hIx _).put _ h (by omega)
  have far : ∀ {row : Option Nat}, (∀ z, row = some z → V.heap.size ≤ z ∧ True) → (∀ z, row = some z → w.heap.size ≤ z ∧ True) ∧ ∀ z, row = some z → D + 1 < z := fun hr => ⟨fun z e => ⟨by have := (hr z e).1; omega, trivial⟩, fun z e => by have := (hr z e).1; omega⟩
  refine ⟨D + 1, [{ target := .collected D, args := #[] }], V, { target := .fn (.func gf) lb, args := #[.func (.yield (D + 1)) #[] #[]] }, V, gf, #[.func (.yield (D + 1)) #[] #[]] ++ lb, V, ?_, ?_, ?_, ?_, fun _ => h1, ?_⟩
  · rw [hV, hrc, hD]
    exact run_enterLoop_outer _ _ _ _ _
  · simp only [resolve, hg]
    simp [go_sem]
  · intro f' hf'
    exact trivial
  · simp [invoke, go_sem, eg]
  refine (hseq (D + 1) (fun pre W => I pre W ∧ Booked D (rc .ready none) W) (fun pre W => ∃ c, Ix c pre W ∧ Booked D (rc .done (some c)) W) V (below_of_grown hgV)
    (fun s A B row hs hg' hr => ⟨hI s A B row hs.1 hg' (far hr).1, hs.2.rows hg' (far hr).2⟩)
    (fun s A B row hs hg' hr => by
      obtain ⟨c, hc, hb⟩ := hs
      exact ⟨c, hIx c s A B row hc hg' (far hr).1, hb.rows hg' (far hr).2⟩) ?_ ⟨hIV, hBV⟩).mono ?_
  · rintro pre x W ⟨hi, hb⟩ hx hlen
    have hy := run_yield (P := Try.prog) (args := encs x) hb.loop (by rw [hrc]; exact hps x)
    rw [hrc] at hy
    obtain ⟨busy, hbusy⟩ : ∃ busy : Loop, busy = { rc .ready none with state := .busy } := ⟨_, rfl⟩
    have hB := hb.turn busy
    refine ⟨fn, _, assign, body, hy, roundIn_of_wpIn hfn (hassign _ x W _ ⟨W.putObj (D + 1) (.loop busy), ?_, ?_⟩)⟩
    · rw [hbusy]
      exact run_beginRound hb.loop (by rw [hrc])
    have kb : Kp W (W.putObj (D + 1) (.loop busy)) := hKb _ _ _ _ (by omega) hb.loop rfl rfl
    -- the end of a round: the record is ready again, or done
    have ends : ∀ (jump : Option Code) (W3 : World), KeepsFrom D (W.putObj (D + 1) (.loop busy)) W3 → ∃ r3 : Loop, r3 = rc (if jump.isNone then .ready else .done) jump ∧ Booked D busy W3 ∧
        (Instr.endRound (D + 1) jump).run Try.prog W3 = .ok (.bool jump.isNone) (W3.putObj (D + 1) (.loop r3)) := fun jump W3 hk => by
      have h3 := hB.others hk
      refine ⟨_, rfl, h3, ?_⟩
      have h4 := run_endRound (P := Try.prog) jump h3.loop
      rw [hbusy, hrc] at h4
      rw [hrc]
      exact h4
    refine wpIn_mono (hbody _ pre x _ (turnI busy hi hb) (hR x W _ _ _ hx hb.loop rfl) hlen) fun e a3 W3 hp => ?_
    cases e with
    | normal =>
      obtain ⟨hk, hkp, hi3⟩ := hp
      rw [← hD] at hk
      obtain ⟨r3, hr3, hb3, hrun⟩ := ends none W3 hk
      have hkf := ((keeps_put W (.loop busy) (show D + 1 < V.heap.size by omega)).trans (keeps_less hk (by omega))).trans (keeps_put W3 (.loop (rc .ready none)) (show D + 1 < V.heap.size by omega))
      subst hr3
      exact ⟨_, _, hrun, .inl ⟨rfl, ⟨turnI _ hi3 hb3, hb3.turn _⟩, hKt (hKt kb hkp) (hKb _ _ _ _ (by omega) hb3.loop rfl rfl), hkf⟩⟩
    | ret =>
      obtain ⟨hk, hi3⟩ := hp
      rw [← hD] at hk
      obtain ⟨r3, hr3, hb3, hrun⟩ := ends (some .ret) W3 hk
      subst hr3
      have hkf := ((keeps_put W (.loop busy) (show D + 1 < V.heap.size by omega)).trans (keeps_less hk (by omega))).trans (keeps_put W3 (.loop (rc .done (some .ret))) (show D + 1 < V.heap.size by omega))
      exact ⟨_, _, hrun, .inr ⟨rfl, ⟨.ret, turnX _ hi3 hb3, hb3.turn _⟩, hkf⟩⟩
    | exit id =>
      obtain ⟨hk, hi3⟩ := hp
      rw [← hD] at hk
      obtain ⟨r3, hr3, hb3, hrun⟩ := ends (some (.exit id)) W3 hk
      subst hr3
      have hkf := ((keeps_put W (.loop busy) (show D + 1 < V.heap.size by omega)).trans (keeps_less hk (by omega))).trans (keeps_put W3 (.loop (rc .done (some (.exit id)))) (show D + 1 < V.heap.size by omega))
      exact ⟨_, _, hrun, .inr ⟨rfl, ⟨(.exit id), turnX _ hi3 hb3, hb3.turn _⟩, hkf⟩⟩
    | goto t =>
      obtain ⟨hk, hi3⟩ := hp
      rw [← hD] at hk
      obtain ⟨r3, hr3, hb3, hrun⟩ := ends (some (.goto t)) W3 hk
      subst hr3
      have hkf := ((keeps_put W (.loop busy) (show D + 1 < V.heap.size by omega)).trans (keeps_less hk (by omega))).trans (keeps_put W3 (.loop (rc .done (some (.goto t)))) (show D + 1 < V.heap.size by omega))
      exact ⟨_, _, hrun, .inr ⟨rfl, ⟨(.goto t), turnX _ hi3 hb3, hb3.turn _⟩, hkf⟩⟩
    | panic ch => exact hp.elim
    | outgrown => exact hp.elim
  · rintro e W2 ⟨⟨v, rfl⟩, hend⟩
    rcases hend with ⟨xs, hS, hi, hb⟩ | ⟨pre, hSp, c, hi, hb⟩
    · have h2 := run_endLoop (P := Try.prog) hb.loop (by rw [hrc]; simp)
      rw [hrc] at h2
      exact ⟨none, _, h2, hdone D xs _ (by omega) hS (turnI _ hi hb) (hb.turn _).late⟩
    · have h2 := run_endLoop (P := Try.prog) hb.loop (by rw [hrc]; simp)
      rw [hrc] at h2
      exact ⟨some c, _, h2, hstop D c pre _ (by omega) hSp (turnX _ hi hb) (hb.turn _).late⟩
/-- .. where nothing is said of the values. -/
def SeqOwns {α : Type} (n gf : Nat) (lb : Array Value) (encs : α → Array Value) (Kp : World → World → Prop) (S Sp : List α → Prop) (N : Nat) (w : World) : Prop := SeqTells n gf lb encs Kp (fun _ _ => True) S Sp N w
theorem range_own {α : Type} {n : Nat} (h1 : 1 ≤ n) {g : Operand} {ps : Array Tmp} {assign body : Code} {Q : Exit → Act → World → Prop} {a : Act} {w : World} {gf : Nat} {lb : Array Value} (hg : a.eval g = .func (.func gf) #[] lb) (eg : ∀ (args : Array Value) (W : World), (callFunc gf args).run Try.prog W = .ok (.enter gf args) W)
    {encs : α → Array Value} {Kp : World → World → Prop} {S Sp : List α → Prop} {N : Nat} (hseq : SeqOwns (n - 1) gf lb encs Kp S Sp N w)
    (hKt : ∀ {A B C : World}, Kp A B → Kp B C → Kp A C) (hKb : ∀ (W : World) (l : Nat) (o o' : Obj), w.heap.size ≤ l → W.heap[l]? = some o → o.isCells = false → o.isWalk = false → Kp W (W.putObj l o')) (hps : ∀ x, (encs x).size = ps.size)
    (I : List α → World → Prop) (Ix : Code → List α → World → Prop) (hI : OwnAll w.heap.size I) (hIx : ∀ c, OwnAll w.heap.size (Ix c)) (h0 : I [] w) (a₁ : α → Act)
    (hassign : ∀ (l : Nat) (x : α) (W : World) (K : Act → World → Prop), K (a₁ x) W → assign.wpIn (Fence.wide.inRound l) (n - 1 - 1) Try.prog (Exit.then K (fun _ _ _ => False)) { tmps := (ps.zip (encs x)).foldl (fun t (p, v) => t.setIfInBounds p v) a.tmps, defers := [] } W)
    (hbody : ∀ (l : Nat) (pre : List α) (x : α) (W : World), I pre W → pre.length < N → body.wpIn (Fence.wide.inRound l) (n - 1 - 1) Try.prog (ownPostK Kp I Ix (pre ++ [x]) W) (a₁ x) W)
    (hdone : ∀ (D : Nat) (xs : List α) (W : World), w.heap.size ≤ D → S xs → I xs W → W.heap[D]? = some (.deferred (some [])) → Q .normal { a with defers := { target := .collected D, args := #[] } :: a.defers } W)
    (hstop : ∀ (D : Nat) (c : Code) (pre : List α) (W : World), w.heap.size ≤ D → Sp pre → Ix c pre W → W.heap[D]? = some (.deferred (some [])) → c.wpIn Fence.wide n Try.prog Q { a with defers := { target := .collected D, args := #[] } :: a.defers } W) :
    (Code.rangeFunc g ps assign body).wpIn Fence.wide n Try.prog Q a w :=
  range_told h1 hg eg hseq hKt hKb (fun _ _ _ _ _ _ _ _ => trivial) hps I Ix hI hIx h0 a₁ hassign (fun l pre x W hi _ hlt => wpIn_mono (hbody l pre x W hi hlt) postT_of) hdone hstop
end Go.Proofs.Ytdjenakmdjiknaa
end

/-! Layer 9: functions that yield, as values: what is asked of Offsets and Pairs, whatever the body of a range turns in blocks X of its caller's. -/
section
namespace Go.Proofs.Ytdjenakmdjiknaa
open Go.ChangeShapes Go.WideShapes Go.ChangeAt Go.RowKit Go.Shelf
set_option linter.unusedVariables false
set_option maxRecDepth 100000

/-- cells, and walks over maps, outside X stay as they are. -/
def KeepX (X : Nat → Prop) (A C : World) : Prop := A.heap.size ≤ C.heap.size ∧ ∀ (x : Nat) (o : Obj), A.heap[x]? = some o → ¬ X x → (o.isCells = true ∨ o.isWalk = true) → C.heap[x]? = some o
theorem keepX_t {X : Nat → Prop} {A B C : World} (h : KeepX X A B) (k : KeepX X B C) : KeepX X A C := ⟨Nat.le_trans h.1 k.1, fun x o hx hn ho => k.2 x o (h.2 x o hx hn ho) hn ho⟩
theorem keepX_b {X : Nat → Prop} {w : World} (W : World) (l : Nat) (o o' : Obj) (_ : w.heap.size ≤ l) (h : W.heap[l]? = some o) (hc : o.isCells = false) (hw : o.isWalk = false) : KeepX X W (W.putObj l o') := by
  have hg := grownBy_putObj' W l o'
  refine ⟨hg.size, fun x o1 hx hn ho => ?_⟩
  by_cases e : x = l
  · subst e
    rw [h] at hx
    injection hx with hx
    subst hx
    rcases ho with ho | ho
    · rw [hc] at ho; cases ho
    · rw [hw] at ho; cases ho
  · exact (hg.block x (Array.getElem?_eq_some_iff.1 hx).1 (fun e2 => e (by injection e2))).trans hx
theorem keepX_refl (X : Nat → Prop) (A : World) : KeepX X A A := ⟨Nat.le_refl _, fun _ _ h _ _ => h⟩
theorem keepX_put {X : Nat → Prop} {A B : World} (h : KeepX X A B) {b j : Nat} (hb : X b) (u : Value) : KeepX X A (B.setCell ⟨b, j, none⟩ u) := by
  refine ⟨by simp [World.setCell]; exact h.1, fun x o hx hn ho => ?_⟩
  have hne : b ≠ x := fun e => hn (e ▸ hb)
  have h1 := h.2 x o hx hn ho
  simp [World.setCell, Array.getElem?_modify, hne]
  exact h1
theorem keepX_grown {X : Nat → Prop} {A B : World} (h : A.grownBy B none) : KeepX X A B := ⟨h.size, fun x o hx _ _ => (h.block x (Array.getElem?_eq_some_iff.1 hx).1 (by simp)).trans hx⟩
/-- a function value is told that yields these, one by one, in every world grown out of it. Away: where the body may write. -/
def SeqIs {α : Type} (encs : α → Array Value) (xs : List α) (Away : Nat → Prop) (w : World) (e : Ending) (w' : World) : Prop :=
  w.grownBy w' none ∧ ∃ (gf : Nat) (lb : Array Value), e = .returned (.func (.func gf) #[] lb) ∧ (∀ (args : Array Value) (W : World), (callFunc gf args).run Try.prog W = .ok (.enter gf args) W) ∧
    ∀ (n : Nat) (W : World) (X : Nat → Prop), 6 ≤ n → w'.grownBy W none → (∀ x, X x → x < w.heap.size ∧ Away x) → SeqOwns n gf lb encs (KeepX X) (fun ys => ys = xs) (fun pre => ∃ k, k ≤ xs.length ∧ pre = xs.take k) xs.length W
/-- the blocks of a view's lists. -/
def Clear (A : Option Addr) (n : Nat) (A' : Option Addr) (n' x : Nat) : Prop := (0 < n → A.map (·.block) ≠ some x) ∧ (0 < n' → A'.map (·.block) ≠ some x)
def enc1 (z : Int) : Array Value := #[.int .i64 z]
def enc2 (z : Int × Int) : Array Value := #[.int .i64 z.1, .int .i64 z.2]
theorem clear_new {w : World} {A A' : Option Addr} {n c n' c' : Nat} {v : Vw} {x : Nat} (h : ViewF w A n c A' n' c' v) (hx : w.heap.size ≤ x) : Clear A n A' n' x := by
  refine ⟨fun h0 e => ?_, fun h0 e => ?_⟩
  · obtain ⟨b, off, e1, hb, _⟩ := h.1.1.2.at_ h0
    rw [e1] at e
    injection e with e
    have e' : b = x := e
    omega
  · obtain ⟨b, off, e1, hb, _⟩ := h.2.1.1.2.at_ h0
    rw [e1] at e
    injection e with e
    have e' : b = x := e
    omega
/-- both places of each cell of two views of one shape. -/
def pairsL (v u : Vw) : List (Int × Int) := if (rightV v && rightV u && decide (v.sh = u.sh)) = true then (colL v).zip (colL u) else []
structure RangeSays : Prop where
  offsets : ∀ A n c A' n' c' v w, ViewF w A n c A' n' c' v → I64 v.off → Calls Try.prog 24 #[.agg #[.slice A n c, .slice A' n' c', .int .i64 v.off]] w (SeqIs enc1 (colL v) (Clear A n A' n') w)
  pairs : ∀ A n c A' n' c' v B m d B' m' d' u w, ViewF w A n c A' n' c' v → I64 v.off → ViewF w B m d B' m' d' u → I64 u.off → Calls Try.prog 23 #[.agg #[.slice A n c, .slice A' n' c', .int .i64 v.off], .agg #[.slice B m d, .slice B' m' d', .int .i64 u.off]] w
    (SeqIs enc2 (pairsL v u) (fun x => Clear A n A' n' x ∧ Clear B m B' m' x) w)
end Go.Proofs.Ytdjenakmdjiknaa
end

/-! Layer 9: Lines, as a value: what is asked of it. A line is a view of one axis; its two lists lie in memory in the world of its round. -/
section
namespace Go.Proofs.Ytdjenakmdjiknaa
open Go.ChangeShapes Go.WideShapes Go.ChangeAt Go.RowKit Go.Shelf
set_option linter.unusedVariables false
set_option maxRecDepth 100000

/-- a line as it is yielded: where its two lists lie, what room they have, where it begins. -/
structure LineZ where
  A : Option Addr
  c : Nat
  B : Option Addr
  d : Nat
  off : Int
def encZ (z : LineZ) : Array Value := #[.agg #[.slice z.A 1 z.c, .slice z.B 1 z.d, .int .i64 z.off]]
/-- what a line's lists hold. -/
def LineAt (sh st : Int) (z : LineZ) (W : World) : Prop := ViewF W z.A 1 z.c z.B 1 z.d ⟨[sh], [st], z.off⟩
theorem sees_put {w : World} {B n l : Nat} {A : Option Addr} {f : Nat → Value} {o o' : Obj} (h : Sees w B A n f) (ho : w.heap[l]? = some o) (hc : o.isCells = false) : Sees (w.putObj l o') B A n f := fun h0 => by
  obtain ⟨b, off, e, hb, hs⟩ := h h0
  have hne : b ≠ l := fun e2 => by
    have h1 := hs 0 h0
    subst e2
    unfold World.cell? at h1
    simp only [ho] at h1
    cases o with
    | cells => exact absurd hc (by simp [Obj.isCells])
    | _ => exact absurd h1 (by simp)
  exact ⟨b, off, e, hb, fun k hk => (World.cell?_of_block (World.putObj_heap_other hne)).trans (hs k hk)⟩
theorem line_put {sh st : Int} (z : LineZ) (W : World) (l : Nat) (o o' : Obj) (h : LineAt sh st z W) (ho : W.heap[l]? = some o) (hc : o.isCells = false) : LineAt sh st z (W.putObj l o') :=
  ⟨⟨⟨h.1.1.1, (sees_put h.1.1.2 ho hc).more (grownBy_putObj' W l o').size⟩, h.1.2⟩, ⟨⟨h.2.1.1.1, (sees_put h.2.1.1.2 ho hc).more (grownBy_putObj' W l o').size⟩, h.2.1.2⟩, h.2.2⟩
/-- Lines' value: in every world grown out of it, lines whose places are these, in order. -/
def SeqLines (v : Vw) (i : Int) (Away : Nat → Prop) (w : World) (e : Ending) (w' : World) : Prop :=
  w.grownBy w' none ∧ ∃ (gf : Nat) (lb : Array Value), e = .returned (.func (.func gf) #[] lb) ∧ (∀ (args : Array Value) (W : World), (callFunc gf args).run Try.prog W = .ok (.enter gf args) W) ∧
    ∀ (n : Nat) (W : World) (X : Nat → Prop), 6 ≤ n → w'.grownBy W none → (∀ x, X x → x < w.heap.size ∧ Away x) →
      SeqTells n gf lb encZ (KeepX X) (fun z W1 => LineAt (v.sh.getD i.toNat 0) (v.st.getD i.toNat 0) z W1) (fun zs => zs.map LineZ.off = linesL v i) (fun pre => ∃ k, k ≤ (linesL v i).length ∧ pre.map LineZ.off = (linesL v i).take k) (linesL v i).length W
structure LinesSay : Prop where
  lines : ∀ A n c A' n' c' v i w, ViewF w A n c A' n' c' v → I64 v.off → I64 i → Calls Try.prog 9 #[.agg #[.slice A n c, .slice A' n' c', .int .i64 v.off], .int .i64 i] w (SeqLines v i (Clear A n A' n') w)
end Go.Proofs.Ytdjenakmdjiknaa
end

/-! Layer 9, the program's own: Offsets, and the function that it hands back. -/
section
namespace Go.Proofs.Ytdjenakmdjiknaa
open Go.ChangeShapes Go.WideShapes Go.ChangeAt Go.RowKit Go.Shelf
set_option linter.unusedVariables false
set_option maxRecDepth 100000
attribute [local go_sem] Oper.semAt_some

theorem KeepX.box {X : Nat → Prop} {A C : World} {b : Nat} {t : TypeId} {pre : List Value} {s : WalkS} (h : KeepX X A C) (hb : WalkB A b t pre s) (hX : ¬ X b) : WalkB C b t pre s := h.2 b _ hb hX (.inl rfl)
theorem WalkOf.col {s : WalkS} {v : Vw} {k : Nat} {on : Bool} (h : WalkOf s v k on) : k ≤ (colL v).length := h.le
/-- how many cells are still to come, read off the walk's own cells. -/
def leftIn (w : World) (b : Nat) : Nat := match w.cell? ⟨b, 21, none⟩ with
  | some (.int _ n) => n.toNat
  | _ => 0
theorem leftIn_is {w : World} {b : Nat} {t : TypeId} {s : WalkS} (h : WalkB w b t [] s) : leftIn w b = s.lf.toNat := by
  have h1 := h.get (o := 0) rfl 21
  rw [Nat.zero_add] at h1
  have h2 : w.cell? ⟨b, 21, none⟩ = some (.int .i64 s.lf) := h1
  unfold leftIn
  rw [h2]
def onB (v : Value) : Nat := match v with
  | .bool true => 1
  | _ => 0
theorem take_next {l : List Int} {j : Nat} (h : j < l.length) : l.take j ++ [l.getD j 0] = l.take (j + 1) := by
  rw [List.take_add_one]
  simp [List.getD, h]
set_option maxHeartbeats 4000000 in
theorem own9_offsets1 (n : Nat) (hn : 1 ≤ n) (l b : Nat) (z : WalkS) (v : Vw) (X : Nat → Prop) (J Jx : List Int → World → Prop) (W : World) (hJ : OwnAll W.heap.size J)
    (hY : ∀ pre x W1, J pre W1 → True → pre.length < (colL v).length → YieldAt Fence.wide (n - 1) Try.prog l (enc1 x) W1 fun e W' => (e = .returned (.bool true) ∧ J (pre ++ [x]) W' ∧ KeepX X W1 W' ∧ KeepsFrom W.heap.size W1 W') ∨ (e = .returned (.bool false) ∧ Jx (pre ++ [x]) W' ∧ KeepsFrom W.heap.size W1 W'))
    (hB : WalkB W b 62 [] z) (hZ : WalkOf z v 0 false) (hX : ∀ x, X x → x < W.heap.size) (h0 : J [] W) :
    CallsIn Fence.wide n Try.prog 45 #[.func (.yield l) #[] #[], .pointer (some ⟨b, 0, none⟩)] W fun e W' => (∃ x, e = .returned x) ∧
      ((∃ xs, xs = colL v ∧ J xs W') ∨ ∃ pre, (∃ k, k ≤ (colL v).length ∧ pre = (colL v).take k) ∧ Jx pre W') := by
  have HJ := Lib.hid hJ
  have HB := Lib.hid hB
  have HZ := Lib.hid hZ
  have HY := Lib.hid hY
  have HX := Lib.hid (show ¬ X W.heap.size from fun h => by have := hX _ h; omega)
  have HNX := Lib.hid (fun (w3 : World) (s : WalkS) (k : Nat) (on : Bool) (hb : WalkB w3 W.heap.size 62 [] s) (hs : WalkOf s v k on) => own9_next W.heap.size 0 62 [] s v k on w3 rfl hb hs)
  have HF := Lib.hid (fresh_walk W)
  have HN := Lib.hid hn
  clear hJ hB hZ hY hX
  have hf1 : Fence.wide.fn 39 := trivial
  refine callsIn_of_wp Try.func45 rfl trivial ?_ rfl
  simp only [Try.ntmps45, List.size_toArray, List.length_cons, List.length_nil, Nat.reduceAdd, Nat.reduceSub, Array.replicate_succ, Array.replicate_zero, List.push_toArray, List.append_toArray, List.nil_append, List.cons_append]
  refine wpIn_wide.2 ?_
  go_wp2_with (first
    | (refine load_walk rfl _ rfl rfl HB.out rfl ?_)
    | (refine store_walk rfl _ _ rfl z rfl rfl HF.out rfl ?_; intro w3 HB3 HG3))
  have HJ3 := Lib.hid (show J [] w3 from HJ.out [] W w3 (some W.heap.size) h0 (grown_join (grown_more (World.grownBy_alloc W _ none) _) HG3.out (.inl rfl)) (fun r e => by injection e with e; exact ⟨by omega, trivial⟩))
  refine (HNX.out w3 z 0 false HB3.out HZ.out).mono ?_
  rintro e w4 ⟨hg4, hh4⟩
  have HJ4 := Lib.hid (show J [] w4 from HJ.out [] w3 w4 (some W.heap.size) HJ3.out hg4 (fun r e => by injection e with e; exact ⟨by omega, trivial⟩))
  obtain ⟨pl, ok, he, hst⟩ : ∃ (pl : Int) (ok : Bool), e = .returned (.tuple #[.int .i64 pl, .bool ok]) ∧
      ((∃ s, 0 < (colL v).length ∧ pl = (colL v).getD 0 0 ∧ ok = true ∧ WalkB w4 W.heap.size 62 [] s ∧ WalkOf s v 1 true) ∨ (ok = false ∧ (colL v).length = 0 ∧ ∃ s, WalkB w4 W.heap.size 62 [] s)) := by
    rcases hh4 with ⟨hk, rfl, s, hb, hs⟩ | ⟨hk, rfl, s, hb, hs⟩
    · exact ⟨_, true, rfl, .inl ⟨s, hk, rfl, rfl, hb, hs⟩⟩
    · exact ⟨_, false, rfl, .inr ⟨rfl, by omega, s, hb⟩⟩
  subst he
  have HST := Lib.hid hst
  clear hh4 hg4 hst
  go_wp2_with fail
  refine (wpIn_wide (n := n)).1 ?_
  gi_loopw [4, 5] (fun p ok wr => (∃ (j : Nat) (s : WalkS), j < (colL v).length ∧ p = .int .i64 ((colL v).getD j 0) ∧ ok = .bool true ∧ WalkB wr W.heap.size 62 [] s ∧ WalkOf s v (j + 1) true ∧ J ((colL v).take j) wr) ∨ (∃ (s : WalkS) (q : Int), p = .int .i64 q ∧ ok = .bool false ∧ J (colL v) wr)) (fun p ok wr => leftIn wr W.heap.size + onB ok)
  case atStart =>
    rcases HST.out with ⟨s, h1, h2, h3, h4, h5⟩ | ⟨h1, h2, s, h3⟩
    · exact .inl ⟨0, s, h1, by rw [h2], by rw [h3], h4, h5, by rw [List.take_zero]; exact HJ4.out⟩
    · exact .inr ⟨z, pl, rfl, by rw [h1], by rw [List.eq_nil_of_length_eq_zero h2]; exact HJ4.out⟩
  case round =>
    rcases hrel with ⟨j, s, hj, rfl, rfl, hb, hs, hJs⟩ | ⟨s, q, rfl, rfl, hJs⟩
    · have HB5 := Lib.hid hb
      have HS5 := Lib.hid hs
      have HJ5 := Lib.hid hJs
      have HM := Lib.hid (show leftIn wr W.heap.size = (colL v).length - (j + 1) by rw [leftIn_is hb, hs.lf]; omega)
      obtain ⟨fn, tmps, assign, body, hy, hR⟩ := HY.out _ ((colL v).getD j 0) wr hJs trivial (by rw [List.length_take]; omega)
      have HT := Lib.hid (take_next hj)
      rw [HT.out] at hR
      have HLT := Lib.hid hj
      generalize (colL v).getD j 0 = x at *
      dsimp only [enc1] at hy
      clear hb hs hJs hj
      gi_wp2
      refine hR.mono ?_
      rintro e W3 (⟨rfl, hJ3, hk, _⟩ | ⟨rfl, hJx3, _⟩)
      · have HB6 := Lib.hid (KeepX.box hk HB5.out HX.out)
        have HNN := Lib.hid (HNX.out W3 s (j + 1) true HB6.out HS5.out)
        have HJ6 := Lib.hid hJ3
        clear hk hJ3 hy hR
        gi_wp2_with (gi_at_call 39; refine (callsIn_wide.2 HNN.out).mono ?_; rintro e w7 ⟨hg7, hh7⟩; have HJ7 := Lib.hid (HJ.out _ _ w7 (some W.heap.size) HJ6.out hg7 (fun r e => by injection e with e; exact ⟨by omega, trivial⟩)); clear hg7; rcases hh7 with ⟨hk, rfl, s', hb, hs⟩ | ⟨hk, rfl, s', hb, hs⟩)
        · have HB7 := Lib.hid hb
          have HS7 := Lib.hid hs
          have HK7 := Lib.hid hk
          go_roundw
          case rel => exact .inl ⟨j + 1, s', HK7.out, by have := HK7.out; simp [List.getD, this], rfl, HB7.out, HS7.out, HJ7.out⟩
          case measure => simp [onB, leftIn_is HB7.out, HS7.out.lf, HM.out]; have := HK7.out; omega
        · have HB7 := Lib.hid hb
          have HS7 := Lib.hid hs
          have HK7 := Lib.hid hk
          have hjl : j + 1 = (colL v).length := by have := HLT.out; omega
          have HJL := Lib.hid hjl
          go_roundw
          case rel => exact .inr ⟨s', _, rfl, rfl, by have := HJ7.out; rw [HJL.out, List.take_of_length_le (Nat.le_refl _)] at this; exact this⟩
          case measure => simp [onB, leftIn_is HB7.out, HS7.out.lf, HM.out]; have := HJL.out; omega
      · gi_wp2
        refine bodyPost_ret (results_none rfl _ _ _) rfl ?_
        exact ⟨⟨_, rfl⟩, .inr ⟨_, ⟨j + 1, HLT.out, rfl⟩, hJx3⟩⟩
    · gi_wp2
      go_end0
      exact ⟨⟨_, rfl⟩, .inl ⟨_, rfl, hJs⟩⟩
end Go.Proofs.Ytdjenakmdjiknaa
end

/-! Layer 9, the program's own: Offsets, Collect. -/
section
namespace Go.Proofs.Ytdjenakmdjiknaa
open Go.ChangeShapes Go.WideShapes Go.ChangeAt Go.RowKit Go.Shelf
set_option linter.unusedVariables false
set_option maxRecDepth 100000
attribute [local go_sem] Oper.semAt_some

/-- Offsets tells a function whose walk stands ahead of the first cell. -/
def GaveOff (v : Vw) (w : World) (e : Ending) (w' : World) : Prop := ∃ b z, e = .returned (.func (.func 45) #[] #[.pointer (some ⟨b, 0, none⟩)]) ∧ w.heap.size ≤ b ∧ WalkB w' b 62 [] z ∧ WalkOf z v 0 false ∧ w.grownBy w' none
set_option maxHeartbeats 2000000 in
theorem own9_offsets (A A' : Option Addr) (n c n' c' : Nat) (s t : List Int) (o : Int) (w : World) (h : NumsF w A n c s) (h' : NumsF w A' n' c' t) (hn : n ≤ 1048576) (hn' : n' ≤ 1048576) :
    Calls Try.prog 24 #[.agg #[.slice A n c, .slice A' n' c', .int .i64 o]] w (GaveOff ⟨s, t, o⟩ w) := by
  have HBG := Lib.hid (fun w' (hg : w.grownBy w' none) => own9_begin A A' n c n' c' s t o w' (h.grow hg) (h'.grow hg) hn hn')
  obtain ⟨w1, hw1⟩ : ∃ w1, w1 = w.alloc (.cells #[.slice A n c, .slice A' n' c', .int .i64 o] 34) := ⟨_, rfl⟩
  have HX := Lib.hid (show Box w1 w.heap.size 34 #[.slice A n c, .slice A' n' c', .int .i64 o] by rw [hw1]; exact Box.fresh _ _ _)
  have HG1 := Lib.hid (show w.grownBy w1 none by rw [hw1]; exact World.grownBy_alloc _ _ _)
  have HW1 := Lib.hid hw1
  clear hw1 h h'
  go_enter Try.func24, Try.ntmps24
  go_upto_region 1 with fail
  rw [← HW1.out]
  have x0 := HX.out.get 0
  have x1 := HX.out.get 1
  have x2 := HX.out.get 2
  go_wp2_with fail
  refine (HBG.out _ HG1.out).mono ?_
  rintro e w2 ⟨⟨z, rfl, hz⟩, hg⟩
  have HZ := Lib.hid hz
  have HG2 := Lib.hid (grown_join HG1.out hg (.inr (by simp)))
  have HF2 := Lib.hid (fresh_walk w2)
  clear hg hz x0 x1 x2
  go_wp2_with (refine store_walk rfl _ _ rfl z rfl rfl HF2.out rfl ?_; intro w3 HB3 HG3)
  go_ret
  exact ⟨w2.heap.size, z, rfl, HG2.out.size, HB3.out, HZ.out, grown_join HG2.out (grown_join (World.grownBy_alloc w2 (.cells (walkL zeroW).toArray 62) none) HG3.out (.inr fun x e => by injection e with e; omega)) (.inr (by simp))⟩
theorem plain_off (args : Array Value) (W : World) : (callFunc 45 args).run Try.prog W = .ok (.enter 45 args) W := enters_of Try.func45 (by kernel_rfl) rfl args W
/-- what Offsets' function yields, in whatever world its walk lies. -/
theorem offsets_own (n : Nat) (hn : 1 ≤ n) (b : Nat) (z : WalkS) (v : Vw) (X : Nat → Prop) (W0 : World) (hB : WalkB W0 b 62 [] z) (hZ : WalkOf z v 0 false) (hX : ∀ x, X x → x < W0.heap.size) :
    SeqOwns n 45 #[.pointer (some ⟨b, 0, none⟩)] enc1 (KeepX X) (fun ys => ys = colL v) (fun pre => ∃ k, k ≤ (colL v).length ∧ pre = (colL v).take k) (colL v).length W0 :=
  fun l J Jx W hW hJ hJx hY h0 => own9_offsets1 n hn l b z v X J Jx W hJ hY (hB.grown (grown_of_below hW) (by simp)) hZ (fun x hx => Nat.lt_of_lt_of_le (hX x hx) (grown_of_below hW).size) h0
theorem offsets_is {A A' : Option Addr} {n c n' c' : Nat} {v : Vw} {w w' : World} {e : Ending} (h : GaveOff v w e w') : SeqIs enc1 (colL v) (Clear A n A' n') w e w' := by
  obtain ⟨b, z, rfl, _, hB, hZ, hg⟩ := h
  exact ⟨hg, _, _, rfl, plain_off, fun n W X hn hW hX => offsets_own n (by omega) b z v X W (hB.grown hW (by simp)) hZ fun x hx => Nat.lt_of_lt_of_le (hX x hx).1 (Nat.le_trans hg.size hW.size)⟩

/-! ### Collect -/
theorem make_room9 (m : Nat) (hm : m ≤ 1048576) : ∃ Z : Array Value, Z.size = m ∧ ∀ W : World, (Instr.makeSlice 22 (.int .i64 0) (.int .i64 (m : Int))).run Try.prog W = .ok (.slice (some ⟨W.heap.size, 0, none⟩) 0 m) (W.alloc (.cells Z 3)) := by
  obtain ⟨i0, hi, hz0, hz1, hz2⟩ := info_parts info_int
  refine ⟨madeCells (Value.int .i64 0).cells (m * i0.size), ?_, fun W => ?_⟩
  · rw [hz1]; simp [madeCells]
  · have h := run_make (P := Try.prog) W 22 3 i0 _ Try.underlying22 hi hz0 .i64 .i64 0 (m : Int) (by omega) (by omega) (by rw [hz2]; omega) (by omega)
    simpa using h
theorem room_own {w : World} {g base m : Nat} {Z : Array Value} (h : Box w g 3 Z) (hb : base ≤ g) (hZ : Z.size = m) (hm : m ≤ 1048576) : OwnI w base (some ⟨g, 0, none⟩) 0 m [] :=
  ⟨rfl, rfl, .inr ⟨g, m, Z, rfl, hb, h, Nat.zero_le _, by unfold maxLen; omega, by rw [hZ]; simp, by simp [intV]⟩⟩
/-- one number more, where there is room: the row stays where it is. -/
theorem in_append_room {F : Fence} {N : Nat} {ops : Array Oper} {rest : List Oper} {op : Oper} {a : Act} {w : World} {Q : Exit → Act → World → Prop} {base g n c b : Nat} {xs : List Int} {x : Int} {t' : TypeId} (hgd : op.guard = none) (d s : Operand)
    (hop : op.op = .call { callee := .builtin .append, args := #[d, s], argTypes := #[22, 22] }) (hd : a.eval d = .slice (some ⟨g, 0, none⟩) n c) (hs : a.eval s = .slice (some ⟨b, 0, none⟩) 1 1) (hown : OwnI w base (some ⟨g, 0, none⟩) n c xs) (hc : n + 1 ≤ c) (hx : Box w b t' #[.int .i64 x])
    (hK : ∀ w1, Hid (OwnI w1 base (some ⟨g, 0, none⟩) (n + 1) c (xs ++ [x])) → Hid (w.grownBy w1 (some g)) → wpListIn F N Try.prog ops Q rest (a.put op.dst (.slice (some ⟨g, 0, none⟩) (n + 1) c)) w1) : wpListIn F N Try.prog ops Q (op :: rest) a w := by
  obtain ⟨i0, hi, hz0, hz1, hz2⟩ := info_parts info_int
  refine wpListIn_append_fits w hgd d s 22 hop base 3 i0 1 Try.underlying22 hi hz1 g n c (intV xs) hd hown.2 ⟨b, 0, none⟩ 1 1 [.int .i64 x] hs rfl ?_ (by intro u hu; simp at hu; subst hu; rfl) hc fun w1 h1 h2 => hK w1 (Lib.hid ⟨by rw [List.length_append, hown.1]; rfl, by rw [intV_snoc]; exact h1⟩) (Lib.hid h2)
  intro j u hu
  match j, hu with
  | 0, hu =>
    have := hx.get 0
    rw [Addr.add_lit]
    exact this.trans hu
theorem own_cells {w : World} {base g n c : Nat} {xs : List Int} (h : OwnI w base (some ⟨g, 0, none⟩) n c xs) : ∃ cur, w.heap[g]? = some (.cells cur 3 (0, 0)) := by
  rcases h.2.2 with ⟨e, _⟩ | ⟨k, cap, cur, e, _, hk, _⟩
  · cases e
  · injection e with e1 e2 e3
    injection e1 with e1
    injection e1 with e1
    subst e1
    exact ⟨cur, hk⟩
theorem keepX_row {X : Nat → Prop} {A B : World} {g : Nat} (h : A.grownBy B (some g)) (hg : X g) : KeepX X A B :=
  ⟨h.size, fun x o hx hn _ => (h.block x (Array.getElem?_eq_some_iff.1 hx).1 (fun e => by injection e with e; subst e; exact hn hg)).trans hx⟩
theorem others_row {A B : World} {g : Nat} {cur : Array Value} {t : TypeId} {fr : Nat × Nat} (h : A.grownBy B (some g)) (hg : A.heap[g]? = some (.cells cur t fr)) : KeepsOthers A B :=
  KeepsOthers.of_grownBy h fun j o e ho => by injection e with e; subst e; rw [hg] at ho; injection ho with ho; subst ho; rfl
theorem field_left (a0 a1 a2 a3 a4 a5 a6 a7 a8 a9 b0 b1 b2 b3 b4 b5 b6 b7 b8 b9 c0 : Value) (m : Int) (w : World) : (Instr.field 62 (.agg #[a0, a1, a2, a3, a4, a5, a6, a7, a8, a9, b0, b1, b2, b3, b4, b5, b6, b7, b8, b9, c0, .int .i64 m]) 6).run Try.prog w = .ok (.int .i64 m) w := by kernel_rfl
set_option maxHeartbeats 4000000 in
theorem own9_collect (A A' : Option Addr) (n c n' c' : Nat) (s t : List Int) (o : Int) (w : World) (h : NumsF w A n c s) (h' : NumsF w A' n' c' t) (hn : n ≤ 1048576) (hn' : n' ≤ 1048576) :
    Calls Try.prog 12 #[.agg #[.slice A n c, .slice A' n' c', .int .i64 o]] w (GaveN (colL ⟨s, t, o⟩) w) := by
  have HBG := Lib.hid (fun w' (hg : w.grownBy w' none) => own9_begin A A' n c n' c' s t o w' (h.grow hg) (h'.grow hg) hn hn')
  have HOF := Lib.hid (fun w' (hg : w.grownBy w' none) => own9_offsets A A' n c n' c' s t o w' (h.grow hg) (h'.grow hg) hn hn')
  have hm := col_most ⟨s, t, o⟩
  have HM := Lib.hid hm
  obtain ⟨Z, hZ, hmk⟩ := make_room9 _ hm
  obtain ⟨v, hv⟩ : ∃ v, v = (⟨s, t, o⟩ : Vw) := ⟨_, rfl⟩
  rw [← hv] at HBG HOF HM hZ hmk ⊢
  obtain ⟨w1, hw1⟩ : ∃ w1, w1 = w.alloc (.cells #[.slice A n c, .slice A' n' c', .int .i64 o] 34) := ⟨_, rfl⟩
  have HX := Lib.hid (show Box w1 w.heap.size 34 #[.slice A n c, .slice A' n' c', .int .i64 o] by rw [hw1]; exact Box.fresh _ _ _)
  have HG1 := Lib.hid (show w.grownBy w1 none by rw [hw1]; exact World.grownBy_alloc _ _ _)
  have HW1 := Lib.hid hw1
  have HZS := Lib.hid hZ
  clear hw1 h h' hv hm hZ
  refine (callsIn_wide (n := 9)).1 ?_
  refine callsIn_of_wp_marks Try.func12 rfl trivial ?_ rfl
  simp only [Try.ntmps12, List.size_toArray, List.length_cons, List.length_nil, Nat.reduceAdd, Nat.reduceSub, Array.replicate_succ, Array.replicate_zero, List.push_toArray, List.append_toArray, List.nil_append, List.cons_append]
  refine wpIn_wide.2 ?_
  go_upto_region 1 with fail
  rw [← HW1.out]
  have x0 := HX.out.get 0
  have x1 := HX.out.get 1
  have x2 := HX.out.get 2
  go_wp2_with fail
  refine (HBG.out _ HG1.out).mono ?_
  rintro e w2 ⟨⟨z, rfl, hz⟩, hg⟩
  have HG2 := Lib.hid (grown_join HG1.out hg (.inr (by simp)))
  have HX2 := Lib.hid (HX.out.grown hg (by simp))
  have hzl : z.lf = ((colL v).length : Int) := by rw [hz.lf]; simp
  clear hg hz x0 x1 x2
  dsimp only [walkL]
  rw [hzl]
  have hfl := field_left
  go_upto_region 2 with fail
  obtain ⟨w3, hw3⟩ : ∃ w3, w3 = (w2.alloc (.cells Z 3)).alloc (.cells #[.slice (some ⟨w2.heap.size, 0, none⟩) 0 (colL v).length] 22) := ⟨_, rfl⟩
  obtain ⟨hz3, hb3, hg3⟩ := boxes9 w2 3 22 Z #[.slice (some ⟨w2.heap.size, 0, none⟩) 0 (colL v).length]
  rw [← hw3] at hz3 hb3 hg3 ⊢
  have HG3 := Lib.hid (grown_join HG2.out hg3 (.inr (by simp)))
  have HX3 := Lib.hid (HX2.out.grown hg3 (by simp))
  have HZ3 := Lib.hid hz3
  have HB3 := Lib.hid hb3
  clear hw3 hz3 hb3 hg3 hfl hmk
  have x0 := HX3.out.get 0
  have x1 := HX3.out.get 1
  have x2 := HX3.out.get 2
  go_wp2_with fail
  refine (HOF.out _ HG3.out).mono ?_
  rintro e w4 ⟨b, z4, rfl, hb4, hB4, hZ4, hg4⟩
  have HB4 := Lib.hid hB4
  have HZ4 := Lib.hid hZ4
  have HG4 := Lib.hid hg4
  have HLB := Lib.hid (show w.heap.size ≤ w2.heap.size ∧ w2.heap.size + 1 < w3.heap.size ∧ w3.heap.size ≤ b ∧ b < w4.heap.size ∧ w3.heap.size ≤ w4.heap.size from ⟨HG2.out.size, HB3.out.small, hb4, hB4.small, hg4.size⟩)
  have HB5 := Lib.hid (HB3.out.grown hg4 (by simp))
  have HO5 := Lib.hid (room_own (HZ3.out.grown hg4 (by simp)) HLB.out.1 HZS.out HM.out)
  have HGW := Lib.hid (grown_join HG3.out hg4 (.inr (by simp)))
  clear x0 x1 x2 hb4 hB4 hZ4 hg4 hzl
  go_wp2_with fail
  refine (wpIn_wide (n := 9)).1 ?_
  refine range_own (by omega) (gf := 45) (lb := #[.pointer (some ⟨b, 0, none⟩)]) rfl plain_off (offsets_own 8 (by omega) b z4 v (fun x => x = w2.heap.size ∨ x = w2.heap.size + 1) w4 HB4.out HZ4.out (by have := HLB.out; rintro x (rfl | rfl) <;> omega)) (fun h1 h2 => keepX_t h1 h2) (fun W l o o' h1 h2 h3 h4 => keepX_b W l o o' h1 h2 h3 h4) (fun _ => rfl)
    (fun pre W => Box W (w2.heap.size + 1) 22 #[.slice (some ⟨w2.heap.size, 0, none⟩) pre.length (colL v).length] ∧ OwnI W w.heap.size (some ⟨w2.heap.size, 0, none⟩) pre.length (colL v).length pre ∧ w.grownBy W none)
    (fun _ _ _ => False)
    (fun pre Wa Wb row hs hg hr => ⟨hs.1.grown hg (fun e => by have h1 := (hr _ e.symm).1; have h2 := HLB.out; omega), own_far hs.2.1 hg (.inr fun e => by have h1 : w4.heap.size ≤ w2.heap.size := (hr _ e.symm).1; have h2 := HLB.out; omega), grown_join hs.2.2 hg (.inr fun z e => by have h1 := (hr z e).1; have h2 := HLB.out; omega)⟩)
    (fun c pre Wa Wb row hs hg hr => hs) ⟨HB5.out, HO5.out, HGW.out⟩
    (fun x => { tmps := #[.agg #[.slice A n c, .slice A' n' c', .int .i64 o], .pointer (some ⟨w.heap.size, 0, none⟩), .slice none 0 0, .pointer (some ⟨w2.heap.size + 1, 0, none⟩), .int .i64 x, .agg #[.slice A n c, .slice A' n' c', .int .i64 o], .agg #[.int .i64 z.ax, .int .i64 (z.sz 0), .int .i64 (z.sz 1), .int .i64 (z.sz 2), .int .i64 (z.sz 3), .int .i64 (z.sz 4), .int .i64 (z.sz 5), .int .i64 (z.st 0), .int .i64 (z.st 1), .int .i64 (z.st 2), .int .i64 (z.st 3), .int .i64 (z.st 4), .int .i64 (z.st 5), .int .i64 (z.dg 0), .int .i64 (z.dg 1), .int .i64 (z.dg 2), .int .i64 (z.dg 3), .int .i64 (z.dg 4), .int .i64 (z.dg 5), .int .i64 z.pl, .bool z.on, .int .i64 ((colL v).length : Nat)], .int .i64 ((colL v).length : Nat), .slice (some ⟨w2.heap.size, 0, none⟩) 0 (colL v).length, .agg #[.slice A n c, .slice A' n' c', .int .i64 o], .func (.func 45) #[] #[.pointer (some ⟨b, 0, none⟩)], .int .i64 x, undef, undef, undef, undef, undef], defers := [] }) ?assign ?body ?done ?stop
  case assign =>
    intro l x W K hK
    dsimp only [enc1]
    gi_wp2
    exact hK
  case body =>
    rintro l pre x W ⟨hb, ho, hg⟩ hlt
    obtain ⟨k, hk⟩ : ∃ k, pre.length = k := ⟨_, rfl⟩
    rw [hk] at hb ho hlt
    have HBX := Lib.hid hb
    have HOX := Lib.hid (ho.grow (World.grownBy_alloc W (.cells #[.int .i64 x] 3) none))
    have HGX := Lib.hid hg
    have HK := Lib.hid hk
    have HFX := Lib.hid (Box.fresh W 3 #[.int .i64 x])
    have hbs := hb.small
    have x0 := hb.get 0
    clear hb ho hg hk
    gi_wp2_with (gi_at_builtin; refine in_append_room rfl _ _ rfl rfl rfl HOX.out hlt HFX.out ?_; intro w5 HO6 HG6; have HBY := Lib.hid ((HBX.out.alloc (.cells #[.int .i64 x] 3)).grown HG6.out (fun e => by injection e with e; omega)); have y0 := HBY.out.get 0; have y1 := HBY.out.free 0)
    obtain ⟨cur, hcur⟩ := own_cells HOX.out
    have hlb := HLB.out
    refine ⟨((KeepsOthers.alloc _ _).trans (others_row HG6.out hcur)).trans (KeepsOthers.setCell _ _ _), keepX_t (keepX_grown (World.grownBy_alloc _ _ _)) (keepX_t (keepX_row HG6.out (.inl rfl)) (keepX_put (keepX_refl _ _) (.inr rfl) _)), ?_, ?_, ?_⟩
    · rw [List.length_append, HK.out]
      exact HBY.out.put 0 _
    · rw [List.length_append, HK.out]
      exact own_far HO6.out (grown_put (grown_refl _ (some (w2.heap.size + 1))) (.inl rfl) _) (.inr fun e => by have e' : w2.heap.size = w2.heap.size + 1 := Option.some.inj e; omega)
    · exact grown_put (grown_join (grown_alloc HGX.out _) HG6.out (.inr fun z e => by injection e with e; omega)) (.inr (by omega)) _
  case done =>
    rintro D xs W hD rfl ⟨hb, ho, hg⟩ hK
    have x0 := hb.get 0
    have HOX := Lib.hid ho
    have HGX := Lib.hid hg
    have HKD := Lib.hid hK
    have HDD := Lib.hid hD
    clear hb ho hg hK
    go_wp2_with fail
    refine ⟨by simp, .inl ⟨_, _, rfl, run_takeDeferred HKD.out, ?_⟩⟩
    have hlb := HLB.out
    have hdd := HDD.out
    have hgD := grownBy_putObj' W D (.deferred none)
    exact ⟨_, results_tmp rfl _ _ _, _, _, _, rfl, (own_far HOX.out hgD (.inr fun e => by have e' : w2.heap.size = D := Option.some.inj e; omega)).numsF, grown_join HGX.out hgD (.inr fun z e => by injection e with e; omega)⟩
  case stop =>
    rintro D c pre W _ _ h _
    exact h.elim
end Go.Proofs.Ytdjenakmdjiknaa
end

/-! Layer 7, the program's own: slices.Clone and slices.Delete at Shape; Without. -/
section
namespace Go.Proofs.Ytdjenakmdjiknaa
open Go.ChangeShapes Go.WideShapes Go.ChangeAt Go.RowKit
set_option linter.unusedVariables false
set_option maxRecDepth 100000

/-! ### append and the cuts, at whatever type of slices of numbers -/
theorem append_types {t u e e' : TypeId} (ht : Try.prog.underlying t = some (.slice e)) (hu : Try.prog.underlying u = some (.slice e')) (ty : TypeId) (A A' : Option Addr) (n c m c' : Nat) (w : World) :
    (Builtin.append_ #[t, u] ty #[.slice A n c, .slice A' m c']).run Try.prog w = (Builtin.append_ #[t, t] ty #[.slice A n c, .slice A' m c']).run Try.prog w := by
  simp [Builtin.append_, run_underlying ht, run_underlying hu]
theorem run_append_shape {w : World} {base n c m c' B : Nat} {A A' : Option Addr} {xs ys : List Int} {u : TypeId} (hu : Try.prog.underlying u = some (.slice 3)) (hown : OwnI w base A n c xs) (hsrc : Nums w B A' m ys) (hnone : A' = none → m = 0 ∧ c' = 0) (hb : base ≤ w.heap.size) (hle : n + m ≤ 4194304) (ty : TypeId) :
    ∃ A1 c1 w1, (Builtin.append_ #[32, u] ty #[.slice A n c, .slice A' m c']).run Try.prog w = .ok (.slice A1 (n + m) c1) w1 ∧ OwnI w1 base A1 (n + m) c1 (xs ++ ys) ∧ w.grownBy w1 (A.map (·.block)) := by
  obtain ⟨i0, hi, hz0, hz1, hz2⟩ := info_parts info_int
  rw [append_types Try.underlying32 hu]
  cases A' with
  | none =>
    obtain ⟨rfl, rfl⟩ := hnone rfl
    have hrun := run_append_owned_none (P := Try.prog) (w := w) base 32 ty 3 i0 1 Try.underlying32 hi _ n _ hown.2
    have hy : ys = [] := List.eq_nil_of_length_eq_zero hsrc.1
    subst hy
    rw [Nat.add_zero, List.append_nil]
    exact ⟨A, c, w, hrun, hown, grown_refl _ _⟩
  | some ad =>
    have hnews : ∀ j u, (intV ys)[j]? = some u → w.cell? (ad.add j) = some u := by
      intro j u hu
      have hj : j < ys.length := by rw [← intV_length]; exact (List.getElem?_eq_some_iff.1 hu).1
      obtain ⟨b, o, e, _, hc⟩ := hsrc.2 (by have := hsrc.1; omega)
      injection e with e
      subst e
      rw [Addr.add_lit, hc j (by have := hsrc.1; omega), ← intV_get ys j hj, hu]
    obtain ⟨v', w', hr, h2, h3, h4, h5⟩ := run_append_own_at (P := Try.prog) (w := w) base 32 ty 3 i0 _ 1 8 Try.underlying32 hi hz0 hz1 hz2 rfl (by omega) _ n _ hown.2 ad m c' (intV ys) (by rw [intV_length, hsrc.1]; omega) hnews (intV_one _) (by simp only [maxLen]; omega) (by omega) hb
    obtain ⟨A1, c1, rfl⟩ := own_slice1 h2
    refine ⟨A1, c1, w', hr, ⟨by rw [List.length_append, hown.1, hsrc.1], ?_⟩, by rw [map_own] at h3; exact h3⟩
    have e : intV (xs ++ ys) = intV xs ++ intV ys := by simp [intV]
    rw [e]
    exact h2
/-- append as one step of a region that draws its order, where its run is known. -/
theorem step_append_at {ops : Array Oper} {o : Oper} {a : Act} {w : World} {K : Act → World → Prop} {Q : Exit → Act → World → Prop} {E : Prop} {t u : TypeId} (hgd : o.guard = none) (d s : Operand)
    (ho : o.op = .call { callee := .builtin .append, args := #[d, s], argTypes := #[t, u] }) (vd vs : Value) (hd : a.eval d = vd) (hs : a.eval s = vs) {v' : Value} {w' : World} (hr : (Builtin.append_ #[t, u] o.type #[vd, vs]).run Try.prog w = .ok v' w') (hK : K (a.put o.dst v') w') :
    if Region.wanted o (yielded ops a.tmps) = true then Oper.wp Try.prog o a w K Q else E := by
  have hw : Region.wanted o (yielded ops a.tmps) = true := by simp [Region.wanted, hgd]
  rw [if_pos hw]
  unfold Oper.wp
  simp [execOp, ho, resolve, invoke, builtin, hd, hs, hr, Result.andThen]
  exact hK
theorem size_shape (w : World) : (sizeOf (Try.prog.elem 32)).run Try.prog w = .ok 1 w := by kernel_rfl
theorem cut_h (g o n c k : Nat) (hk : k ≤ c) (w : World) : (Instr.slice 32 (.slice (some ⟨g, o, none⟩) n c) none (some (.int .i64 (k : Int))) none).run Try.prog w = .ok (.slice (some ⟨g, o, none⟩) k c) w := by
  rw [run_slice_h (P := Try.prog) (w := w) (t := 32) (ht := Try.underlying32) (kh := .i64) (h := (k : Int)) (h0 := by omega) (h2 := by omega), size_shape]
  simp [Result.andThen, sliced, Addr.add]
theorem cut_l (g n c k : Nat) (hk : k ≤ n) (w : World) : (Instr.slice 32 (.slice (some ⟨g, 0, none⟩) n c) (some (.int .i64 (k : Int))) none none).run Try.prog w = .ok (.slice (some ⟨g, if c = k then 0 else k, none⟩) (n - k) (c - k)) w := by
  rw [run_slice_l (P := Try.prog) (w := w) (t := 32) (ht := Try.underlying32) (kl := .i64) (l := (k : Int)) (h0 := by omega) (h1 := by omega), size_shape]
  by_cases h : c = k
  · simp [Result.andThen, sliced, h]
  · simp [Result.andThen, sliced, Addr.add, h] <;> omega
theorem cut_lh (g n c k l : Nat) (hk : k ≤ l) (hl : l ≤ c) (hc : k < c) (w : World) : (Instr.slice 32 (.slice (some ⟨g, 0, none⟩) n c) (some (.int .i64 (k : Int))) (some (.int .i64 (l : Int))) none).run Try.prog w = .ok (.slice (some ⟨g, k, none⟩) (l - k) (c - k)) w := by
  rw [run_slice_lh (P := Try.prog) (w := w) (t := 32) (ht := Try.underlying32) (kl := .i64) (kh := .i64) (l := (k : Int)) (h := (l : Int)) (h0 := by omega) (h1 := by omega) (h2 := by omega), size_shape]
  have h : ¬ c = k := by omega
  simp [Result.andThen, sliced, Addr.add, h] <;> omega
theorem cut_lhm (A : Option Addr) (n c : Nat) (l h m : Int) (h0 : 0 ≤ l) (h1 : l ≤ h) (h2 : h ≤ m) (h3 : m ≤ c) : ∃ v, ∀ w : World, (Instr.slice 32 (.slice A n c) (some (.int .i64 l)) (some (.int .i64 h)) (some (.int .i64 m))).run Try.prog w = .ok v w := by
  refine ⟨sliced A l.toNat h.toNat m.toNat 1, fun w => ?_⟩
  rw [run_slice_lhm (P := Try.prog) (w := w) (t := 32) (ht := Try.underlying32) (kl := .i64) (kh := .i64) (km := .i64) (l := l) (h := h) (m := m) (h0 := h0) (h1 := h1) (h2 := h2) (h3 := h3), size_shape]
  rfl
/-! ### Clone -/
theorem nil_shape (A : Option Addr) (n c : Nat) (w : World) : (binOp .eql 32 (.slice A n c) (.slice none 0 0)).run Try.prog w = .ok (.bool A.isNone) w :=
  Lib.run_eql_slice_nil w 32 3 A n c 0 0 Try.underlying32
set_option maxHeartbeats 1000000 in
theorem own7_clone (A : Option Addr) (n c : Nat) (s : List Int) (w : World) (h : NumsF w A n c s) (hn : n ≤ 1048576) :
    Calls Try.prog 58 #[.slice A n c] w (GaveInts s w) := by
  cases A with
  | none =>
    have hc := h.2.2 rfl
    have hn0 : n = 0 := by have := h.2.1; omega
    subst hc
    subst hn0
    have hs : s = [] := List.eq_nil_of_length_eq_zero h.len
    subst hs
    clear h
    have hb := fun w' => nil_shape none 0 0 w'
    simp only [Option.isNone_none] at hb
    go_enter Try.func58, Try.ntmps58
    go_wp2_with fail
    go_ret
    exact ⟨none, 0, rfl, OwnI.nil _ _, grown_refl _ _⟩
  | some a =>
    have hnum := h.1.grow (World.grownBy_alloc w (.cells #[] 3) none)
    obtain ⟨A1, c1, w1, hrun, ho, hg⟩ := run_append_shape (u := 32) (ys := s) (c' := c) Try.underlying32 (ints_empty (heap_alloc_new w (.cells #[] 3)) (Nat.le_refl _)) hnum (fun e => by cases e) (by simp) (by omega) 32
    have HO := Lib.hid ho
    have HG := Lib.hid (grown_join (World.grownBy_alloc w (.cells #[] 3) none) hg (.inr fun b hb => by simp at hb; omega))
    have hl := h.len
    rw [Nat.zero_add] at hrun
    clear h hnum ho hg
    have hb := fun w' => nil_shape (some a) n c w'
    simp only [Option.isNone_some] at hb
    go_enter Try.func58, Try.ntmps58
    go_wp2_with (at_builtin; refine Lib.wpList_append_run _ rfl (.tmp 5) (.tmp 6) 32 32 rfl _ _ rfl rfl _ _ hrun ?_)
    go_ret
    exact GaveInts.of (List.nil_append s) hl (ints_as (Nat.zero_add n) rfl HO.out) HG.out
/-! ### Delete -/
/-! ### Without -/
end Go.Proofs.Ytdjenakmdjiknaa
end

/-! Layer 7, the program's own: slices.Insert of one number at Shape; With. -/
section
namespace Go.Proofs.Ytdjenakmdjiknaa
open Go.ChangeShapes Go.WideShapes Go.ChangeAt Go.RowKit
set_option linter.unusedVariables false
set_option maxRecDepth 100000

theorem own_open {w : World} {base n c : Nat} {A : Option Addr} {xs : List Int} (h : OwnI w base A n c xs) (h0 : 0 < n) :
    ∃ g cur, A = some ⟨g, 0, none⟩ ∧ base ≤ g ∧ w.heap[g]? = some (.cells cur 3 (0, 0)) ∧ n ≤ c ∧ c ≤ maxLen ∧ cur.size = c ∧ cur.toList.take n = intV xs := by
  obtain ⟨hl, _, hrow⟩ := h
  obtain ⟨e, h1⟩ | ⟨g', c', cur, e, hbase, hcell, hnc, hcm, hcs, htake⟩ := hrow
  · omega
  · injection e with e1 _ e3
    subst e3
    rw [Nat.mul_one] at hcs htake
    exact ⟨g', cur, e1, hbase, hcell, hnc, hcm, hcs, htake⟩
theorem own_close {w : World} {base n c g : Nat} {cur : Array Value} {xs : List Int} (hl : xs.length = n) (hb : base ≤ g) (hg : w.heap[g]? = some (.cells cur 3 (0, 0))) (hnc : n ≤ c) (hcm : c ≤ maxLen) (hcs : cur.size = c) (ht : cur.toList.take n = intV xs) : OwnI w base (some ⟨g, 0, none⟩) n c xs :=
  ⟨hl, by rw [intV_length, hl, Nat.mul_one], .inr ⟨g, c, cur, rfl, hb, hg, hnc, hcm, by rw [hcs, Nat.mul_one], by rw [Nat.mul_one]; exact ht⟩⟩
theorem cut_some (A : Option Addr) (n c : Nat) (l : Int) (h0 : 0 ≤ l) (h1 : l ≤ n) : ∃ v, ∀ w : World, (Instr.slice 32 (.slice A n c) (some (.int .i64 l)) none none).run Try.prog w = .ok v w := by
  refine ⟨sliced A l.toNat n c 1, fun w => ?_⟩
  rw [run_slice_l (P := Try.prog) (w := w) (t := 32) (ht := Try.underlying32) (kl := .i64) (l := l) (h0 := h0) (h1 := h1), size_shape]
  rfl
theorem cut_l2 (g n c k : Nat) (hk : k ≤ n) (hc : k < c) (w : World) : (Instr.slice 32 (.slice (some ⟨g, 0, none⟩) n c) (some (.int .i64 (k : Int))) none none).run Try.prog w = .ok (.slice (some ⟨g, k, none⟩) (n - k) (c - k)) w := by
  rw [cut_l g n c k hk, if_neg (by omega)]
/-- what the cells of a row are that holds these numbers. -/
theorem row_cell {w : World} {g : Nat} {cur : Array Value} {xs : List Int} {n : Nat} (hg : w.heap[g]? = some (.cells cur 3 (0, 0))) (hl : xs.length = n) (ht : cur.toList.take n = intV xs) {j : Nat} (hj : j < n) : w.cell? ⟨g, j, none⟩ = some (.int .i64 (xs.getD j 0)) := by
  have h1 : cur.toList[j]? = (intV xs)[j]? := by rw [← ht, List.getElem?_take_of_lt hj]
  rw [cell_of_row w g j _ _ _ hg, ← Array.getElem?_toList, h1, intV_get xs j (by omega)]
theorem take_of {cur : List Value} {xs : List Int} {n i : Nat} (ht : cur.take n = intV xs) (hi : i ≤ n) : cur.take i = intV (xs.take i) := by
  rw [show cur.take i = (cur.take n).take i by rw [List.take_take, Nat.min_eq_left hi], ht]
  simp [intV]
def InsP (base i n : Nat) (A : Option Addr) (xs : List Int) (y : Int) (w : World) (e : Ending) (w' : World) : Prop := ∃ A1 c1, e = .returned (.slice A1 (n + 1) c1) ∧ OwnI w' base A1 (n + 1) c1 (xs.take i ++ [y] ++ xs.drop i) ∧ w.grownBy w' (A.map (·.block))
/-! ### With -/
end Go.Proofs.Ytdjenakmdjiknaa
end
