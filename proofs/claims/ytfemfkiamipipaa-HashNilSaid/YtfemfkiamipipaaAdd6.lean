/-
  Layer 6: the reference's Add.
-/
import Derived.Test.YtfemfkiamipipaaApp6
import Derived.Deep.RegionLaw
namespace Go.Proofs.Ytfemfkiamipipaa
open Go.ChangeShapes Go.WideShapes Go.ChangeAt Go.RowKit
set_option linter.unusedVariables false

/-- the blocks of a table behind a change: the old ones, and what is new. -/
def NewB (G : Nat → Prop) (w w' : World) : Nat → Prop := fun x => G x ∨ (w.heap.size ≤ x ∧ x < w'.heap.size)
/-- two numbers are told, as Add does; the table has become that. -/
def AddedR (G : Nat → Prop) (b : Nat) (r : List Lab × Nat × Nat) (w : World) (e : Ending) (w' : World) : Prop :=
  e = .returned (.tuple #[.int .i64 r.2.1, .int .i64 r.2.2]) ∧ RTab w' (NewB G w w') b r.1 ∧ Spare (fun x => x = b) w w'
theorem addedR_kept {G : Nat → Prop} {b : Nat} {l : List Lab} {a : Lab} {k : Nat} {w w' : World} (h : RTab w G b l) (hg : w.grownBy w' none) (he : addE l a = (l, 0, k)) : AddedR G b (addE l a) w (.returned (.tuple #[.int .i64 0, .int .i64 k])) w' := by
  rw [he]
  exact ⟨rfl, (h.grow hg).more fun x hx => .inl hx, Spare.of_grown hg⟩
theorem four_box {w : World} {b g : Nat} {t t' : TypeId} {v x y z : Value} (h : Box w b t #[v]) (h' : Box w g t' #[x, y, z]) : w.cell? ⟨b, 0, none⟩ = some v ∧ w.cell? ⟨g, 0, none⟩ = some x ∧ w.cell? ⟨g, 1, none⟩ = some y ∧ w.cell? ⟨g, 2, none⟩ = some z :=
  ⟨h.get 0, h'.get 0, h'.get 1, h'.get 2⟩
theorem rtab_put {G : Nat → Prop} {w w5 : World} {b base n c : Nat} {x : Value} {B : Option Addr} {xs : List Lab} (hG : G b) (hg : w.grownBy w5 none) (hB : Box w5 b 47 #[x]) (ho : OwnL w5 base 39 B n c xs) (hb : w.heap.size ≤ base) :
    RTab (w5.setCell ⟨b, 0, none⟩ (.slice B n c)) (NewB G w (w5.setCell ⟨b, 0, none⟩ (.slice B n c))) b xs ∧ Spare (fun x => x = b) w (w5.setCell ⟨b, 0, none⟩ (.slice B n c)) := by
  have hs : Spare (fun x => x = b) w5 (w5.setCell ⟨b, 0, none⟩ (.slice B n c)) := Spare.of_row (grown_put (grown_refl w5 (some b)) (.inl rfl) _) rfl
  refine ⟨⟨B, n, c, base, hB.put 0 _, ⟨ho.1, hs.own ho.2 (fun k hk e => own_apart ho.2 hB (by decide) (by rw [hk, e]))⟩, .inl hG, fun a e => .inr ?_⟩, (Spare.of_grown hg).join hs (fun _ _ h => h)⟩
  have := ho.2.lt a.block (by rw [map_own, e]; rfl)
  have hz := hs.size
  exact ⟨by omega, by omega⟩
theorem addedR_more {G : Nat → Prop} {b : Nat} {r : List Lab × Nat × Nat} {xs : List Lab} {n : Nat} {w w' : World} (he : r = (xs, n, 0)) (h : RTab w' (NewB G w w') b xs) (hs : Spare (fun x => x = b) w w') : AddedR G b r w (.returned (.tuple #[.int .i64 (n : Int), .int .i64 0])) w' := by
  subst he; exact ⟨rfl, h, hs⟩
set_option maxRecDepth 100000 in
set_option maxHeartbeats 4000000 in
theorem ref6Add_any (b : Nat) (G : Nat → Prop) (l : List Lab) (ak an : Int) (as' : ByteArray) (w : World) (h : RTab w G b l) (hn : l.length ≤ 4096) (hs : as'.size ≤ 1048576) :
    Calls Try.prog 16 #[.pointer (some ⟨b, 0, none⟩), .agg #[.int .u8 ak, .int .i64 an, .string as']] w (AddedR G b (addE l ⟨ak, an, as'⟩) w) := by
  have HR := Lib.hid h
  obtain ⟨w1, hw1⟩ : ∃ w1, w1 = w.alloc (.cells #[.int .u8 ak, .int .i64 an, .string as'] 39) := ⟨_, rfl⟩
  have HG1 := Lib.hid (show w.grownBy w1 none by rw [hw1]; exact World.grownBy_alloc _ _ _)
  have HX := Lib.hid (show Box w1 w.heap.size 39 #[.int .u8 ak, .int .i64 an, .string as'] by rw [hw1]; exact Box.fresh _ _ _)
  have hk1 := HX.out.get 0
  have hk2 := HX.out.get 1
  have hk3 := HX.out.get 2
  rw [hw1] at hk1 hk2 hk3
  have HRI := Lib.hid (fun w' => ref5Right_any ak an as' w' hs)
  have HFI := Lib.hid (fun w' (hg : w.grownBy w' none) => ref6Find_any b G l ak an as' w' (h.grow hg) (by omega))
  have HAR := Lib.hid (show ∀ b, rightE ⟨ak, an, as'⟩ = b → addE l ⟨ak, an, as'⟩ = if b = false then (l, 0, 9) else if (numOf l ⟨ak, an, as'⟩).isSome then (l, 0, 6) else if 4096 ≤ l.length then (l, 0, 7) else (l ++ [⟨ak, an, as'⟩], l.length, 0) from fun b hb => by unfold addE; rw [hb])
  have HW1 := Lib.hid hw1
  clear h hs hw1
  go_enter Try.func16, Try.ntmps16
  go_wp2_with fail
  refine (HRI.out _).mono ?_
  rintro e w2 ⟨rfl, hg⟩
  rw [← HW1.out] at hg
  have HG2 := Lib.hid (grown_join HG1.out hg (.inr (by simp)))
  have HX2 := Lib.hid (HX.out.grown hg (by simp))
  clear hg hk1 hk2 hk3
  have HAR := Lib.hid (HAR.out _ rfl)
  generalize rightE ⟨ak, an, as'⟩ = rb at *
  cases rb
  · go_wp2_with fail
    go_ret2
    exact addedR_kept HR.out HG2.out HAR.out
  · have hk1 := HX2.out.get 0
    have hk2 := HX2.out.get 1
    have hk3 := HX2.out.get 2
    go_wp2_with fail
    refine (HFI.out _ HG2.out).mono ?_
    rintro e w3 ⟨rfl, hg⟩
    have HG3 := Lib.hid (grown_join HG2.out hg (.inr (by simp)))
    have HX3 := Lib.hid (HX2.out.grown hg (by simp))
    clear hg hk1 hk2 hk3 HG2 HX2
    have HN := Lib.hid (show numOf l ⟨ak, an, as'⟩ = numOf l ⟨ak, an, as'⟩ from rfl)
    generalize numOf l ⟨ak, an, as'⟩ = o at *
    cases o with
    | some i =>
      dsimp only [findV]
      go_wp2_with fail
      go_ret2
      exact addedR_kept HR.out HG3.out HAR.out
    | none =>
      dsimp only [findV]
      have hr3 := HR.out.grow HG3.out
      obtain ⟨A, n, c, base, hb, ho, h1, h2⟩ := hr3
      have HGB := Lib.hid h1
      have HB := Lib.hid hb
      have HO := Lib.hid ho
      have HL := Lib.hid ho.1
      have HA := Lib.hid h2
      have b0 := hb.get 0
      clear hb ho h1 h2
      by_cases h4 : 4096 ≤ n
      · have d1 : decide ((4096 : Int) ≤ (n : Int)) = true := by simp; omega
        go_wp2_with fail
        go_ret2
        exact addedR_kept HR.out HG3.out (by rw [HAR.out, if_neg (by simp), if_neg (by simp), if_pos (by rw [HL.out]; exact h4)])
      · have d1 : decide ((4096 : Int) ≤ (n : Int)) = false := by simp; omega
        have HLS := Lib.hid (fun w' (hg : w3.grownBy w' none) => HO.out.labs.grow hg)
        have HNO := Lib.hid (fun (e : A = none) => by subst e; exact ownL_none HO.out)
        obtain ⟨i0, hi, hz0, hz1, hz2⟩ := info_parts info_rlab
        have HI := Lib.hid hi
        have HI0 := Lib.hid hz0
        have HI1 := Lib.hid hz1
        have HI2 := Lib.hid hz2
        have HBS := Lib.hid (fun w' (hg : w3.grownBy w' none) => HB.out.grown hg (by simp))
        have HXS := Lib.hid (fun w' (hg : w3.grownBy w' none) => HX3.out.grown hg (by simp))
        have NINE := Lib.hid (four_box HB.out HX3.out)
        clear hi hz0 hz1 hz2
        go_wp2_with fail
        obtain ⟨e0, e1, e2, e3⟩ := NINE.out
        obtain ⟨e10, e11, e12, e13⟩ := four_box (HBS.out (w3.alloc (.cells #[] 39)).drew (grown_drew (grown_alloc (grown_refl _ _) _))) (HXS.out (w3.alloc (.cells #[] 39)).drew (grown_drew (grown_alloc (grown_refl _ _) _)))
        obtain ⟨e20, e21, e22, e23⟩ := four_box (HBS.out (w3.alloc (.cells #[.int .u8 ak, .int .i64 an, .string as'] 39)).drew (grown_drew (grown_alloc (grown_refl _ _) _))) (HXS.out (w3.alloc (.cells #[.int .u8 ak, .int .i64 an, .string as'] 39)).drew (grown_drew (grown_alloc (grown_refl _ _) _)))
        obtain ⟨e30, e31, e32, e33⟩ := four_box (HBS.out ((w3.alloc (.cells #[] 39)).alloc (.cells #[.int .u8 ak, .int .i64 an, .string as'] 39)).drew (grown_drew (grown_alloc (grown_alloc (grown_refl _ _) _) _))) (HXS.out ((w3.alloc (.cells #[] 39)).alloc (.cells #[.int .u8 ak, .int .i64 an, .string as'] 39)).drew (grown_drew (grown_alloc (grown_alloc (grown_refl _ _) _) _)))
        obtain ⟨e40, e41, e42, e43⟩ := four_box (HBS.out ((w3.alloc (.cells #[.int .u8 ak, .int .i64 an, .string as'] 39)).alloc (.cells #[] 39)).drew (grown_drew (grown_alloc (grown_alloc (grown_refl _ _) _) _))) (HXS.out ((w3.alloc (.cells #[.int .u8 ak, .int .i64 an, .string as'] 39)).alloc (.cells #[] 39)).drew (grown_drew (grown_alloc (grown_alloc (grown_refl _ _) _) _)))
        go_region_law (first
          | (refine step_append_labs Try.underlying22 HI.out HI0.out HI1.out HI2.out (by rfl) rfl (.tmp 25) (.tmp 29) rfl (by rfl) (by rfl) (base := w3.heap.size) (xs := []) (ownL_empty (by first | exact box_dr1 _ _ _ | exact box_dr2 _ _ _ _ | exact box_dr3 _ _ _ _) (by first | omega | (simp; done) | (simp; omega))) (HLS.out _ (by repeat (first | exact grown_refl _ _ | refine grown_drew ?_ | refine grown_alloc ?_ _))) HNO.out (by first | omega | (simp; done) | (simp; omega)) (by omega) ?_; intro B1 k1 w4 ho4 hg4; have hgc4 : Hid (w3.grownBy w4 none) := Lib.hid (grown_join (by repeat (first | exact grown_refl _ _ | refine grown_drew ?_ | refine grown_alloc ?_ _)) hg4.out (.inr fun b hb => by simp at hb; omega)); have hz4 := hgc4.out.size; obtain ⟨e40, e41, e42, e43⟩ := four_box (HBS.out _ hgc4.out) (HXS.out _ hgc4.out); obtain ⟨e50, e51, e52, e53⟩ := four_box (HBS.out _ (grown_alloc hgc4.out (.cells #[.int .u8 ak, .int .i64 an, .string as'] 39))) (HXS.out _ (grown_alloc hgc4.out (.cells #[.int .u8 ak, .int .i64 an, .string as'] 39))))
          | (refine step_append_labs Try.underlying22 HI.out HI0.out HI1.out HI2.out (by rfl) rfl (.tmp 30) (.tmp 32) rfl (by rfl) (by rfl) (base := w3.heap.size) (xs := l) (ys := [⟨ak, an, as'⟩]) (OwnL.grow (ownL_as (by omega) (by simp) ho4.out) (by repeat (first | exact grown_refl _ _ | refine grown_drew ?_ | refine grown_alloc ?_ _))) (labs_one (by first | exact Box.fresh _ _ _ | exact Box.grown (by first | exact box_dr1 _ _ _ | exact box_dr2 _ _ _ _ | exact box_dr3 _ _ _ _) hg4.out (by simp <;> omega))) (fun e => by cases e) (by first | omega | (simp; done) | (simp; omega)) (by omega) ?_; intro B2 k2 w5 ho5 hg5; have hgc5 : Hid (w3.grownBy w5 none) := Lib.hid (grown_join (by repeat (first | exact hgc4.out | refine grown_drew ?_ | refine grown_alloc ?_ _)) hg5.out (.inr fun b hb => (ho4.out.2.lt b (by rw [map_own]; exact hb)).1)); have hz5 := hgc5.out.size; have HB5 := Lib.hid (HBS.out _ hgc5.out); have hf5 := HB5.out.free 0; have b5 := HB5.out.get 0))
        all_goals
          clear e0 e1 e2 e3 e10 e11 e12 e13 e20 e21 e22 e23 e30 e31 e32 e33 e40 e41 e42 e43
          obtain ⟨h7, h8⟩ := rtab_put HGB.out (grown_join HG3.out hgc5.out (.inr (by simp))) HB5.out ho5.out HG3.out.size
          have H7 := Lib.hid h7
          have H8 := Lib.hid h8
          have c7 : (w5.setCell ⟨b, 0, none⟩ (.slice B2 (n + 1) k2)).cell? ⟨b, 0, none⟩ = some (.slice B2 (n + 1) k2) := (HB5.out.put 0 _).get 0
          have s1 : ((n : Int) + 1 - 1) = (n : Int) := by omega
          have s2 : IntKind.i64.wrap ((n : Int) + 1 - 1) = (n : Int) := by rw [s1]; exact IntWalk.i64_in _ (by omega)
          have s3 : IntKind.i64.wrap (n : Int) = (n : Int) := IntWalk.i64_in _ (by omega)
          clear h7 h8 b5 hf5 hz4 hz5
          generalize w5.setCell ⟨b, 0, none⟩ (.slice B2 (n + 1) k2) = w6 at *
          go_wp2_with fail
          go_ret2
          exact addedR_more (by rw [HAR.out, if_neg (by simp), if_neg (by simp), if_neg (by rw [HL.out]; exact h4), HL.out]) H7.out H8.out
end Go.Proofs.Ytfemfkiamipipaa
