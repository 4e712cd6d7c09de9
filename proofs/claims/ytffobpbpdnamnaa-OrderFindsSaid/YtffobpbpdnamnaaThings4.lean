/-
  Layer 4: the two closures of order's Sort.
-/
import Derived.Test.YtffobpbpdnamnaaSeg4
namespace Go.Proofs.Ytffobpbpdnamnaa
open Go.ChangeShapes Go.WideShapes Go.ChangeAt Go.RowKit
set_option linter.unusedVariables false

/-- which number stands at a place, by K. -/
def atK (K : Int → Int) (l : List Int) (x : Nat) : Int := K (l.getD x 0)
def atZ (K : Int → Int) (l : List Int) (z : Int) : Int := K (l.getD z.toNat 0)
set_option maxHeartbeats 1000000 in
theorem things4_any (f : FuncId) (K : Int → Int) (b2 b3 : Nat) (A : Option Addr) (n c : Nat) (l : List Int) (B x y : Nat) (w : World) (hf : IsCmp f K) (h3 : w.cell? ⟨b3, 0, none⟩ = some (.func (.func f) #[] #[])) (h2 : w.cell? ⟨b2, 0, none⟩ = some (.slice A n c))
    (h : Nums w B A n l) (hn : n ≤ 1048576) (hx : x < n) (hy : y < n) :
    Calls Try.prog 25 #[.int .i64 x, .int .i64 y, .pointer (some ⟨b3, 0, none⟩), .pointer (some ⟨b2, 0, none⟩)] w fun e w' => e = .returned (.int .i64 (cmpI (atZ K l x) (atZ K l y))) ∧ ∃ m, w' = w.drewN m := by
  obtain ⟨b, o, rfl, hb, hc⟩ := h.2 (by omega)
  have g1 := hc x hx
  have g2 := hc y hy
  dsimp only at g1 g2
  have e1 : atZ K l x = K (l.getD x 0) := by unfold atZ; rw [Int.toNat_natCast]
  have e2 : atZ K l y = K (l.getD y 0) := by unfold atZ; rw [Int.toNat_natCast]
  rw [e1, e2]
  clear e1 e2
  generalize l.getD x 0 = u at *
  generalize l.getD y 0 = v at *
  have hpl := hf.1
  unfold Plain at hpl
  have HCM := Lib.hid (fun k => hf.2 u v (w.drewN k))
  clear hf hc h
  have i1 : (0 : Int) ≤ (x : Int) := by omega
  have i2 : (x : Int) < (n : Int) := by omega
  have i3 : (0 : Int) ≤ (y : Int) := by omega
  have i4 : (y : Int) < (n : Int) := by omega
  go_enter Try.func25, Try.ntmps25
  go_wp2
  go_quiet (exact Calls.quiet_of_same (HCM.out _))
  go_wp2
  go_ret
  exact ⟨rfl, _, rfl⟩

/-! ### what the closures hold -/
def St4 (w : World) (base b2 b3 b5 b6 b8 R S : Nat) (A : Option Addr) (n c : Nat) (f : FuncId) (l : List Int) (row : List Nat) : Prop :=
  Box w b2 22 #[.slice A n c] ∧ Box w b3 29 #[.func (.func f) #[] #[]] ∧ Box w b5 22 #[.slice (some ⟨R, 0, none⟩) n n] ∧ Box w b6 22 #[.slice (some ⟨S, 0, none⟩) n n] ∧
  Box w b8 29 #[.func (.func 25) #[] #[.pointer (some ⟨b3, 0, none⟩), .pointer (some ⟨b2, 0, none⟩)]] ∧
  Nums w base A n l ∧ Whole w R (placesI row) ∧ (∃ zs : List Int, zs.length = n ∧ Whole w S zs) ∧ base ≤ R ∧ base ≤ S ∧ R ≠ S ∧ row.length = n ∧ base ≤ w.heap.size
section
variable {w w' : World} {base b2 b3 b5 b6 b8 R S n c : Nat} {A : Option Addr} {f : FuncId} {l : List Int} {row : List Nat}
theorem whole_box_apart {g r : Nat} {t : TypeId} {cs : Array Value} {zs : List Int} (h : Box w g t cs) (h' : Whole w r zs) (ht : t ≠ 3) : some g ≠ some r := fun e => by
  injection e with e
  exact Box.apart h (show Box w r _ _ from h') ht e
theorem St4.drewN (h : St4 w base b2 b3 b5 b6 b8 R S A n c f l row) (m : Nat) : St4 (w.drewN m) base b2 b3 b5 b6 b8 R S A n c f l row := h
/-- the second row is written. -/
theorem St4.second {zs : List Int} (h : St4 w base b2 b3 b5 b6 b8 R S A n c f l row) (hg : w.grownBy w' (some S)) (hs : Whole w' S zs) (hz : zs.length = n) : St4 w' base b2 b3 b5 b6 b8 R S A n c f l row := by
  obtain ⟨h2, h3, h5, h6, h8, hl, hR, ⟨zs0, _, hS⟩, hbR, hbS, hRS, hr, hbw⟩ := h
  refine ⟨h2.grown hg (whole_box_apart h2 hS (by decide)), h3.grown hg (whole_box_apart h3 hS (by decide)), h5.grown hg (whole_box_apart h5 hS (by decide)), h6.grown hg (whole_box_apart h6 hS (by decide)), h8.grown hg (whole_box_apart h8 hS (by decide)),
    hl.below (below_of_grown_row hg hbw fun x hx => by injection hx with hx; omega), hR.grown hg (by intro e; injection e with e; exact hRS e), ⟨zs, hz, hs⟩, hbR, hbS, hRS, hr, Nat.le_trans hbw hg.size⟩
/-- the row is written. -/
theorem St4.first {row' : List Nat} (h : St4 w base b2 b3 b5 b6 b8 R S A n c f l row) (hg : w.grownBy w' (some R)) (hs : Whole w' R (placesI row')) (hz : row'.length = n) : St4 w' base b2 b3 b5 b6 b8 R S A n c f l row' := by
  obtain ⟨h2, h3, h5, h6, h8, hl, hR, ⟨zs0, hz0, hS⟩, hbR, hbS, hRS, hr, hbw⟩ := h
  refine ⟨h2.grown hg (whole_box_apart h2 hR (by decide)), h3.grown hg (whole_box_apart h3 hR (by decide)), h5.grown hg (whole_box_apart h5 hR (by decide)), h6.grown hg (whole_box_apart h6 hR (by decide)), h8.grown hg (whole_box_apart h8 hR (by decide)),
    hl.below (below_of_grown_row hg hbw fun x hx => by injection hx with hx; omega), hs, ⟨zs0, hz0, hS.grown hg (by intro e; injection e with e; exact hRS e.symm)⟩, hbR, hbS, hRS, hz, Nat.le_trans hbw hg.size⟩
end
/-- what a merge of two runs leaves: the row's piece from a to b in its order, all else of the row as it was. -/
def Merged (w : World) (base b2 b3 b5 b6 b8 R S : Nat) (A : Option Addr) (n c : Nat) (f : FuncId) (l : List Int) (g : Nat → Int) (row : List Nat) (a b : Nat) (e : Ending) (w' : World) : Prop :=
  e = .returned (.tuple #[]) ∧ ∃ row' : List Nat, St4 w' base b2 b3 b5 b6 b8 R S A n c f l row' ∧ Seg g a b (piece row' a b) ∧ (∀ x y, y ≤ a ∨ b ≤ x → piece row' x y = piece row x y) ∧ Below base w w'
/-- the closure of places asks for the numbers that stand there. -/
theorem St4.ask {w : World} {base b2 b3 b5 b6 b8 R S n c : Nat} {A : Option Addr} {f : FuncId} {K : Int → Int} {l : List Int} {row p q : List Nat} (h : St4 w base b2 b3 b5 b6 b8 R S A n c f l row) (hf : IsCmp f K) (hn : n ≤ 1048576) (hp : ∀ x ∈ p, x < n) (hq : ∀ x ∈ q, x < n) :
    AskIn w R 25 #[.pointer (some ⟨b3, 0, none⟩), .pointer (some ⟨b2, 0, none⟩)] (atZ K l) (placesI p) (placesI q) := fun w1 x y hg hx hy => by
  obtain ⟨x, hx1, rfl⟩ := mem_placesI hx
  obtain ⟨y, hy1, rfl⟩ := mem_placesI hy
  obtain ⟨h2, h3, h5, h6, h8, hl, hR, ⟨zs0, _, hS⟩, hbR, hbS, hRS, hr, hbw⟩ := h
  exact things4_any f K b2 b3 A n c l base x y w1 hf ((h3.grown hg (whole_box_apart h3 hR (by decide))).get 0) ((h2.grown hg (whole_box_apart h2 hR (by decide))).get 0) (hl.below (below_of_grown_row hg hbw fun x hx => by injection hx with hx; omega)) hn (hp x hx1) (hq y hy1)
end Go.Proofs.Ytffobpbpdnamnaa
