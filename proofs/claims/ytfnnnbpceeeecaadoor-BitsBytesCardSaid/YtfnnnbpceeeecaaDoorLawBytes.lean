/-
  THE WALK OF BitsBytes: any truths as bytes, any bytes as truths.
-/
import Derived.Test.YtfnnnbpceeeecaaDoorLawShare
namespace Go.Proofs.YtfnnnbpceeeecaaDoor
open Go.ChangeShapes Go.WideShapes Go.ChangeAt Go.RowKit
set_option linter.unusedVariables false

theorem bytes_many (A A' : Option Addr) (n n' c c' : Nat) (x : Int) (w : World) (hT : Tab w) (h : 500 < n ∨ 100 < n') (hn : n ≤ 9223372036854775807) (hn' : n' ≤ 9223372036854775807) :
    Calls Tryd.prog 4 #[.slice A n c, .slice A' n' c', .int .i64 x] w fun e w' => e = .returned (.bool true) ∧ w.grownBy w' none := by
  have HK := Lib.hid (knows_any w hT)
  clear hT
  by_cases h1 : 500 < n
  · clear h
    go_enter Tryd.func4, Tryd.ntmps4
    go_wp2_with fail
    refine HK.out.mono ?_
    rintro e w1 ⟨rfl, hg⟩
    have HG := Lib.hid hg
    clear hg
    go_wp2_with fail
    go_ret
    exact ⟨rfl, HG.out⟩
  · have h2 : 100 < n' := by omega
    clear h
    go_enter Tryd.func4, Tryd.ntmps4
    go_wp2_with fail
    refine HK.out.mono ?_
    rintro e w1 ⟨rfl, hg⟩
    have HG := Lib.hid hg
    clear hg
    go_wp2_with fail
    go_ret
    exact ⟨rfl, HG.out⟩
set_option maxRecDepth 100000 in
set_option maxHeartbeats 3000000 in
theorem bytes_few (A A' : Option Addr) (n n' c c' : Nat) (l : List Bool) (bs : List Nat) (x : Int) (hx : I64 x) (w : World) (hT : Tab w) (h : Bools w w.heap.size A n l) (h' : Octets w w.heap.size A' n' bs) (hn : n ≤ 500) (hn' : n' ≤ 100) :
    Calls Tryd.prog 4 #[.slice A n c, .slice A' n' c', .int .i64 x] w fun e w' => e = .returned (.bool true) ∧ w.grownBy w' none := by
  have HK := Lib.hid (knows_any w hT)
  have H := Lib.hid h
  have H' := Lib.hid h'
  have HX := Lib.hid hx
  clear hT h h' hx
  go_enter Tryd.func4, Tryd.ntmps4
  go_wp2_with fail
  refine HK.out.mono ?_
  rintro e w1 ⟨rfl, hg⟩
  have HG1 := Lib.hid hg
  clear hg
  go_wp2_with fail
  refine (from_any A' n' c' bs x HX.out (by omega) w1 ((H'.out.keep (below_of_grown HG1.out)).more HG1.out.size)).mono ?_
  rintro e w2 (⟨hf, g, B, k, d, rfl, hm, hg⟩ | ⟨hf, rfl, hg⟩)
  · have HF := Lib.hid hf
    have HX2 := Lib.hid (show x.toNat ≤ 2097152 from hf.2.1)
    have HM2 := Lib.hid hm
    have HG2 := Lib.hid (grown_join HG1.out hg (.inr (by simp)))
    clear hm hg hf
    go_wp2_with fail
    refine (refFrom_any A' n' c' bs x HX.out (by omega) w2 ((H'.out.keep (below_of_grown HG2.out)).more HG2.out.size)).mono ?_
    rintro e w3 (⟨_, A3, c3, rfl, ho, hg⟩ | ⟨hf, _⟩)
    · have HO3 := Lib.hid ho
      have HM3 := Lib.hid (HM2.out.grow hg)
      have HG3 := Lib.hid (grown_join HG2.out hg (.inr (by simp)))
      clear ho hg
      go_wp2_with fail
      have hHere := here w3
      go_region_held (fun w' => Here w') (exact here _) (first
        | (go_at_call 20; refine (of_any A n c l _ ((H.out.keep (below_of_grown (grown_drewN HG3.out _))).more HG3.out.size) (by omega)).mono ?_; rintro e w4 ⟨g4, B4, k4, d4, rfl, hm4, hg4⟩; have HM4 := Lib.hid hm4; have HG4 := Lib.hid (grown_join (grown_drewN HG3.out _) hg4 (.inr (by simp))); have HMR4 := Lib.hid ((HM3.out.drewN _).grow hg4); have HOR4 := Lib.hid (OwnB.grow (w := World.drewN _ _) HO3.out hg4 (.inl rfl)); clear hm4 hg4)
        | (go_at_call 21; refine (bytes_any _ l 0 _ (HM4.out.lower (Nat.zero_le _)).p (Nat.zero_le _)).mono ?_; rintro e w5 ⟨A5, c5, rfl, ho5, hg5⟩; have hs5 := str_new ho5; have HO5 := Lib.hid ho5; have HG5 := Lib.hid (grown_join HG4.out hg5 (.inr (by simp))); have HMR5 := Lib.hid (HMR4.out.grow hg5); have HOR5 := Lib.hid (HOR4.out.grow hg5 (.inl rfl)); clear ho5 hg5)
        | (go_at_call 22; refine (refBytes_any A n c l _ ((H.out.keep (below_of_grown HG5.out)).more HG5.out.size) (by omega)).mono ?_; rintro e w6 ⟨A6, c6, rfl, ho6, hg6⟩; have hs6 := str_new ho6; have hs5' := str_new (own_grow HO5.out hg6); have HG6 := Lib.hid (grown_join HG5.out hg6 (.inr (by simp))); have HMR6 := Lib.hid (HMR5.out.grow hg6); have HOR6 := Lib.hid (HOR5.out.grow hg6 (.inl rfl)); clear ho6 hg6)
        | (go_at_call 17; refine (lawSame_any _ A3 x.toNat c3 (fromL bs x.toNat) (tab x.toNat (bitB bs)) _ _ _ HMR6.out.p HOR6.out.bools HX2.out).mono ?_; rintro e w7 ⟨rfl, m7, hww⟩; subst hww; rw [show decide (fromL bs x.toNat = tab x.toNat (bitB bs)) = true from decide_eq_true rfl]))
      all_goals go_wp2
      all_goals go_ret
      all_goals exact ⟨rfl, grown_drewN HG6.out _⟩
    · exact absurd HF.out hf
  · have HF := Lib.hid hf
    have HG2 := Lib.hid (grown_join HG1.out hg (.inr (by simp)))
    clear hg hf
    go_wp2_with fail
    refine (refFrom_any A' n' c' bs x HX.out (by omega) w2 ((H'.out.keep (below_of_grown HG2.out)).more HG2.out.size)).mono ?_
    rintro e w3 (⟨hf, _⟩ | ⟨_, rfl, hg⟩)
    · exact absurd hf HF.out
    · have HG3 := Lib.hid (grown_join HG2.out hg (.inr (by simp)))
      clear hg
      go_wp2_with fail
      have hHere := here w3
      go_region_held (fun w' => Here w') (exact here _) (first
        | (go_at_call 20; refine (of_any A n c l _ ((H.out.keep (below_of_grown (grown_drewN HG3.out _))).more HG3.out.size) (by omega)).mono ?_; rintro e w4 ⟨g4, B4, k4, d4, rfl, hm4, hg4⟩; have HM4 := Lib.hid hm4; have HG4 := Lib.hid (grown_join (grown_drewN HG3.out _) hg4 (.inr (by simp))); clear hm4 hg4)
        | (go_at_call 21; refine (bytes_any _ l 0 _ (HM4.out.lower (Nat.zero_le _)).p (Nat.zero_le _)).mono ?_; rintro e w5 ⟨A5, c5, rfl, ho5, hg5⟩; have hs5 := str_new ho5; have HO5 := Lib.hid ho5; have HG5 := Lib.hid (grown_join HG4.out hg5 (.inr (by simp))); clear ho5 hg5)
        | (go_at_call 22; refine (refBytes_any A n c l _ ((H.out.keep (below_of_grown HG5.out)).more HG5.out.size) (by omega)).mono ?_; rintro e w6 ⟨A6, c6, rfl, ho6, hg6⟩; have hs6 := str_new ho6; have hs5' := str_new (own_grow HO5.out hg6); have HG6 := Lib.hid (grown_join HG5.out hg6 (.inr (by simp))); clear ho6 hg6)
        | (go_at_call 17; refine (lawSame_any none none 0 0 [] [] 0 0 _ (MaskP.nil _ _) ⟨rfl, fun h0 => absurd h0 (by omega)⟩ (by omega)).mono ?_; rintro e w7 ⟨rfl, m7, hww⟩; subst hww; rw [show decide (([] : List Bool) = []) = true from rfl]))
      all_goals go_wp2
      all_goals go_ret
      all_goals exact ⟨rfl, grown_drewN HG6.out _⟩
theorem bitsBytes_walk (A A' : Option Addr) (n n' c c' : Nat) (l : List Bool) (bs : List Nat) (x : Int) (hx : I64 x) (w : World) (hT : Tab w) (h : Bools w w.heap.size A n l) (h' : Octets w w.heap.size A' n' bs) (hn : n ≤ 9223372036854775807) (hn' : n' ≤ 9223372036854775807) :
    Calls Tryd.prog 4 #[.slice A n c, .slice A' n' c', .int .i64 x] w fun e w' => e = .returned (.bool true) ∧ Below w.heap.size w w' := by
  by_cases h0 : 500 < n ∨ 100 < n'
  · exact (bytes_many A A' n n' c c' x w hT h0 hn hn').mono fun e w' ⟨h1, h2⟩ => ⟨h1, below_of_grown h2⟩
  · exact (bytes_few A A' n n' c c' l bs x hx w hT h h' (by omega) (by omega)).mono fun e w' ⟨h1, h2⟩ => ⟨h1, below_of_grown h2⟩
end Go.Proofs.YtfnnnbpceeeecaaDoor
