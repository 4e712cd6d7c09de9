/-
  Layer 4: order's Merge.
-/
import Derived.Test.YtffobpbpdnamnaaLay4
namespace Go.Proofs.Ytffobpbpdnamnaa
open Go.ChangeShapes Go.WideShapes Go.ChangeAt Go.RowKit
set_option linter.unusedVariables false

theorem IsCmp.ask {f : FuncId} {K : Int → Int} (h : IsCmp f K) (w : World) (R : Nat) (xs ys : List Int) : AskIn w R f #[] K xs ys := fun w1 x y _ _ _ =>
  (h.2 x y w1).mono fun _ _ ⟨he, hw⟩ => ⟨he, 0, hw⟩
theorem Nums.run {w w' : World} {B n : Nat} {A : Option Addr} {xs : List Int} {S : Nat → Nat → Prop} (h : Nums w B A n xs) (hb : Below B w w') (hB : B ≤ w'.heap.size) (hS : ∀ b o, b < B → S b o) : Run w' S A xs := fun h0 => by
  obtain ⟨b, o, e, hlt, hc⟩ := h.2 (by rw [← h.1]; exact h0)
  exact ⟨b, o, e, by omega, hS b o hlt, fun k hk => (hb.cell (p := ⟨b, o + k, none⟩) hlt).trans (hc k (by rw [← h.1]; exact hk))⟩
theorem splice_all {zs xs : List Int} (h : xs.length = zs.length) : splice zs 0 xs = xs := by simp [splice, h]
set_option maxHeartbeats 1000000 in
theorem ord4Merge_any (g : Value) (f : FuncId) (K : Int → Int) (A A' : Option Addr) (n n' c c' : Nat) (xs ys : List Int) (w : World) (hG : GivenCmp g f K) (h : Nums w w.heap.size A n xs) (h' : Nums w w.heap.size A' n' ys) (hn : n + n' ≤ 1048576) (hc : n ≤ c) (hc' : n' ≤ c') :
    Calls Try.prog 21 #[.slice A n c, .slice A' n' c', g] w (GaveInts (mrgK K xs ys) w) := by
  obtain ⟨Z, hZ, hmk⟩ := make_ints (n + n') hn
  have HG := Lib.hid hG
  have hwh := Whole.fresh w hZ
  have hgr := World.grownBy_alloc w (.cells Z 3) none
  have hlay := lay4_any f #[] K w.heap.size 0 (n + n') A A' c c' n n' (tabI (n + n') fun _ => 0) xs ys _ hG.1.1 (hG.1.ask _ _ _ _) hwh h.1 h'.1 (by rw [tabI_length]; omega) (by rw [tabI_length]; exact hn)
    (h.run (below_of_grown hgr) hgr.size (fun b o hb => by omega)) (h'.run (below_of_grown hgr) hgr.size (fun b o hb => .inl (by omega))) hc hc'
  rw [splice_all (by rw [mrgK_length, h.1, h'.1, tabI_length])] at hlay
  have hlen : (mrgK K xs ys).length = n + n' := by rw [mrgK_length, h.1, h'.1]
  have HGR := Lib.hid hgr
  obtain ⟨N, hN⟩ : ∃ N, N = n + n' := ⟨_, rfl⟩
  rw [← hN] at hmk hlay hlen
  have HLAY := Lib.hid hlay
  have HLEN := Lib.hid hlen
  have hsum : ((n : Int) + (n' : Int)) = (N : Int) := by omega
  have hN1 : N ≤ 1048576 := by omega
  clear hG hwh hgr h h' hZ hlay hlen hN
  go_enter Try.func21, Try.ntmps21
  go_wp2_with (first
    | (go_at_call 24; refine (HG.out.2 _).mono ?_; rintro e w' ⟨rfl, rfl⟩)
    | (go_at_call 27; refine HLAY.out.mono ?_; rintro e w2 ⟨rfl, hw2, hg2⟩; have HW2 := Lib.hid hw2; have HG2 := Lib.hid hg2; clear hw2 hg2))
  go_ret
  have h1 := HW2.out.own (Nat.le_refl _) (by rw [HLEN.out]; exact hN1)
  unfold GaveInts
  rw [HLEN.out] at h1 ⊢
  exact ⟨_, _, rfl, h1, grown_join HGR.out HG2.out (.inr fun x hx => by injection hx with hx; omega)⟩
end Go.Proofs.Ytffobpbpdnamnaa
