/-
  Layer 6: what may turn in some blocks (Spare); the reference's table in memory; its Find.
-/
import Derived.Test.YtfemfkiamipipaaHash6
import Derived.Test.YtfemfkiamipipaaRef5e
import Derived.Test.YtfemfkiamipipaaOwn5
namespace Go.Proofs.Ytfemfkiamipipaa
open Go.ChangeShapes Go.WideShapes Go.ChangeAt Go.RowKit
set_option linter.unusedVariables false

/-- what was there outside these blocks is as it was. -/
def Spare (F : Nat → Prop) (w w' : World) : Prop :=
  w'.os = w.os ∧ w'.tape = w.tape ∧ w'.output = w.output ∧ w.heap.size ≤ w'.heap.size ∧ ∀ x, x < w.heap.size → ¬ F x → w'.heap[x]? = w.heap[x]?
section
variable {F G : Nat → Prop} {a b c w w' : World}
theorem Spare.refl (F : Nat → Prop) (w : World) : Spare F w w := ⟨rfl, rfl, rfl, Nat.le_refl _, fun _ _ _ => rfl⟩
theorem Spare.size (h : Spare F w w') : w.heap.size ≤ w'.heap.size := h.2.2.2.1
theorem Spare.of_grown (h : w.grownBy w' none) : Spare F w w' := ⟨h.os, h.tape, h.output, h.size, fun x hx _ => h.block x hx (by simp)⟩
theorem Spare.of_row {r : Nat} (h : w.grownBy w' (some r)) (hr : F r) : Spare F w w' := ⟨h.os, h.tape, h.output, h.size, fun x hx hF => h.block x hx (fun e => by injection e with e; subst e; exact hF hr)⟩
/-- one change behind another: what the second may turn, the first may, or it is new. -/
theorem Spare.join (h : Spare F a b) (k : Spare G b c) (hG : ∀ x, x < a.heap.size → G x → F x) : Spare F a c :=
  ⟨k.1.trans h.1, k.2.1.trans h.2.1, k.2.2.1.trans h.2.2.1, Nat.le_trans h.size k.size, fun x hx hF =>
    (k.2.2.2.2 x (Nat.lt_of_lt_of_le hx h.size) (fun hg => hF (hG x hx hg))).trans (h.2.2.2.2 x hx hF)⟩
theorem Spare.grown (h : Spare F a b) (k : b.grownBy c none) : Spare F a c := h.join (Spare.of_grown (F := F) k) (fun _ _ h => h)
theorem Spare.more (h : Spare F a b) (hG : ∀ x, F x → G x) : Spare G a b := ⟨h.1, h.2.1, h.2.2.1, h.size, fun x hx hg => h.2.2.2.2 x hx (fun hf => hg (hG x hf))⟩
/-- what turns lies behind the old memory. -/
theorem Spare.after (h : a.grownBy b none) (k : Spare F b c) (hF : ∀ x, F x → a.heap.size ≤ x) : a.grownBy c none :=
  ⟨k.1.trans h.os, k.2.1.trans h.tape, k.2.2.1.trans h.output, Nat.le_trans h.size k.size, fun x hx _ => (k.2.2.2.2 x (Nat.lt_of_lt_of_le hx h.size) (fun hf => by have := hF x hf; omega)).trans (h.block x hx (by simp))⟩
theorem Spare.block (h : Spare F w w') {x : Nat} (hx : x < w.heap.size) (hF : ¬ F x) : w'.heap[x]? = w.heap[x]? := h.2.2.2.2 x hx hF
theorem Spare.box {g : Nat} {t : TypeId} {cs : Array Value} (h : Spare F w w') (hb : Box w g t cs) (hF : ¬ F g) : Box w' g t cs := (h.block hb.small hF).trans hb
theorem Spare.own {base n : Nat} {e : TypeId} {size : Nat} {v : Value} {xs : List Value} (h : Spare F w w') (ho : w.ownsRow base e size v n xs) (hd : ∀ k, v.ownBlock = some k → ¬ F k) : w'.ownsRow base e size v n xs := by
  refine ⟨ho.1, ?_⟩
  rcases ho.2 with h0 | ⟨k, cap, cur, hv, hb, hk, rest⟩
  · exact .inl h0
  · refine .inr ⟨k, cap, cur, hv, hb, ?_, rest⟩
    have hlt : k < w.heap.size := (Array.getElem?_eq_some_iff.1 hk).1
    exact (h.block hlt (hd k (by rw [hv]; rfl))).trans hk
end

/-- the reference's table at block b: its labels; G: the blocks that it has. -/
def RTab (w : World) (G : Nat → Prop) (b : Nat) (l : List Lab) : Prop :=
  ∃ A n c base, Box w b 47 #[.slice A n c] ∧ OwnL w base 39 A n c l ∧ G b ∧ (∀ a, A = some a → G a.block)
theorem RTab.keep {F G : Nat → Prop} {w w' : World} {b : Nat} {l : List Lab} (h : RTab w G b l) (hs : Spare F w w') (hd : ∀ x, G x → ¬ F x) : RTab w' G b l := by
  obtain ⟨A, n, c, base, hb, ho, h1, h2⟩ := h
  exact ⟨A, n, c, base, hs.box hb (hd _ h1), ⟨ho.1, hs.own ho.2 (fun k hk => hd _ (by
    rw [map_own] at hk
    cases A with
    | none => cases hk
    | some a => injection hk with hk; subst hk; exact h2 a rfl))⟩, h1, h2⟩
theorem RTab.grow {G : Nat → Prop} {w w' : World} {b : Nat} {l : List Lab} (h : RTab w G b l) (hg : w.grownBy w' none) : RTab w' G b l :=
  h.keep (F := fun _ => False) (Spare.of_grown hg) (fun _ _ h => h)
theorem RTab.more {F G : Nat → Prop} {w : World} {b : Nat} {l : List Lab} (h : RTab w G b l) (hG : ∀ x, G x → F x) : RTab w F b l := by
  obtain ⟨A, n, c, base, hb, ho, h1, h2⟩ := h
  exact ⟨A, n, c, base, hb, ho, hG _ h1, fun a e => hG _ (h2 a e)⟩
theorem info_rtab : (Try.prog.info? 47).map (fun i => (i.zero, i.size)) = some (some (.agg #[.slice none 0 0]), 1) := by kernel_rfl
/-- a label's number as it is told. -/
def findV (o : Option Nat) : Value := match o with
  | none => .tuple #[.int .i64 0, .bool false]
  | some i => .tuple #[.int .i64 i, .bool true]
theorem findG_no {o : Option Nat} {w w' : World} (h : o = none) (hg : w.grownBy w' none) : ToldG (findV o) w (.returned (.tuple #[.int .i64 0, .bool false])) w' := by subst h; exact ⟨rfl, hg⟩
theorem findG_yes {o : Option Nat} {i : Nat} {w w' : World} (h : o = some i) (hg : w.grownBy w' none) : ToldG (findV o) w (.returned (.tuple #[.int .i64 i, .bool true])) w' := by subst h; exact ⟨rfl, hg⟩
set_option maxRecDepth 100000 in
set_option maxHeartbeats 2000000 in
theorem ref6Find_any (b : Nat) (G : Nat → Prop) (l : List Lab) (ak an : Int) (as' : ByteArray) (w : World) (h : RTab w G b l) (hn : l.length ≤ 1048576) :
    Calls Try.prog 14 #[.pointer (some ⟨b, 0, none⟩), .agg #[.int .u8 ak, .int .i64 an, .string as']] w (ToldG (findV (numOf l ⟨ak, an, as'⟩)) w) := by
  obtain ⟨A, n, c, base, hb, ho, _, _⟩ := h
  have HL := Lib.hid ho.1
  have hn' : n ≤ 1048576 := by rw [← ho.1]; exact hn
  obtain ⟨w1, hw1⟩ : ∃ w1, w1 = w.alloc (.cells #[.int .u8 ak, .int .i64 an, .string as'] 39) := ⟨_, rfl⟩
  have HW1 := Lib.hid hw1
  have HG1 := Lib.hid (show w.grownBy w1 none by rw [hw1]; exact World.grownBy_alloc _ _ _)
  have HB := Lib.hid (show Box w1 b _ _ by rw [hw1]; exact hb.alloc _)
  have HX := Lib.hid (show Box w1 w.heap.size 39 #[.int .u8 ak, .int .i64 an, .string as'] by rw [hw1]; exact Box.fresh _ _ _)
  have H := Lib.hid (ho.labs.grow HG1.out)
  clear hw1 hb ho hn
  go_enter Try.func14, Try.ntmps14
  go_wp2_with fail
  go_loopw [6] (fun i wr => ∃ x m : Nat, x ≤ n ∧ i = .int .i64 x ∧ (∀ j, j < x → l.getD j noLab ≠ ⟨ak, an, as'⟩) ∧ wr = w1.drewN m) (fun i _ => n - (intOf i).toNat)
  case atStart => exact ⟨0, 0, by omega, rfl, fun i hi => by omega, HW1.out.symm⟩
  case round =>
    obtain ⟨x, m, hx, rfl, hq, hwr⟩ := hrel
    have HQ := Lib.hid hq
    clear hq
    have b0 : wr.cell? ⟨b, 0, none⟩ = some (.slice A n c) := by rw [hwr]; exact HB.out.get 0
    by_cases hlt : x < n
    · obtain ⟨bb, off, rfl, _, k0, k1, k2⟩ := (H.out.drewN m).at_ hlt
      rw [← hwr] at k0 k1 k2
      have x0 : wr.cell? ⟨w.heap.size, 0, none⟩ = some (.int .u8 ak) := by rw [hwr]; exact HX.out.get 0
      have x1 : wr.cell? ⟨w.heap.size, 1, none⟩ = some (.int .i64 an) := by rw [hwr]; exact HX.out.get 1
      have x2 : wr.cell? ⟨w.heap.size, 2, none⟩ = some (.string as') := by rw [hwr]; exact HX.out.get 2
      have HW := Lib.hid hwr
      clear hwr
      generalize h1 : l.getD x noLab = u at *
      have H1 := Lib.hid h1
      clear h1
      have hq := eql_rlab u ⟨ak, an, as'⟩
      by_cases he : u = ⟨ak, an, as'⟩
      · subst he
        have hb : eqlL ⟨ak, an, as'⟩ ⟨ak, an, as'⟩ = true := decide_eq_true rfl
        rw [hb] at hq
        dsimp only at hq k0 k1 k2
        go_wp2
        go_quiet (fail)
        go_wp2
        go_ret2
        exact findG_yes (num_some (by rw [HL.out]; exact hlt) H1.out HQ.out) (by rw [HW.out]; exact grown_drewN (grown_drewN HG1.out _) _)
      · have hb : eqlL u ⟨ak, an, as'⟩ = false := decide_eq_false he
        rw [hb] at hq
        have HE := Lib.hid he
        clear he
        obtain ⟨uk, un, us⟩ := u
        dsimp only at hq k0 k1 k2
        go_wp2
        go_quiet (fail)
        go_wp2
        go_roundw
        case rel => exact ⟨x + 1, _, by omega, by go_num, fun j hj => by
          by_cases hjx : j = x
          · subst hjx; rw [H1.out]; exact HE.out
          · exact HQ.out j (by omega), by rw [HW.out, World.drewN_drewN]⟩
        case measure => simp [intOf]; omega
    · obtain rfl : n = x := by omega
      have HW := Lib.hid hwr
      clear hwr
      go_wp2
      go_ret2
      exact findG_no (num_none (fun i hi => HQ.out i (by rw [HL.out] at hi; exact hi))) (by rw [HW.out]; exact grown_drewN HG1.out _)
end Go.Proofs.Ytfemfkiamipipaa
