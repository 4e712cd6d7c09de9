/-
  THE WALK OF BitsBack: truths as bytes come back; what bytes tell has these bytes.
-/
import Derived.Test.YtfnnnbpceeeecaaDoorLawShare
namespace Go.Proofs.YtfnnnbpceeeecaaDoor
open Go.ChangeShapes Go.WideShapes Go.ChangeAt Go.RowKit
set_option linter.unusedVariables false

theorem byteL_own (l : List Bool) (i : Nat) : bitB (bytesL l) i = l.getD i false := by
  unfold bitB
  by_cases h : i / 8 < nb l
  · rw [bytesL_get l _ h, byteL_bit l _ _ (by omega), show 8 * (i / 8) + i % 8 = i by omega]
  · have : (bytesL l).getD (i / 8) 0 = 0 := by simp only [List.getD]; rw [List.getElem?_eq_none (by rw [bytesL_length]; omega)]; rfl
    rw [this, get_past (by unfold nb at h; omega)]
    simp
theorem back_fits (l : List Bool) (h : l.length ≤ 2097152) : Fits (bytesL l) l.length := by
  refine ⟨h, bytesL_length l, fun i hi _ => ?_⟩
  rw [byteL_own, get_past hi]
theorem back_list (l : List Bool) : fromL (bytesL l) l.length = l :=
  list_eq (fromL_length _ _) fun i hi => by
    rw [fromL_length] at hi
    rw [fromL_get, byteL_own]; simp [hi]
theorem own_octets {w : World} {base n c : Nat} {A : Option Addr} {l : List Bool} (h : w.ownsRow base 5 1 (.slice A n c) n (byteV (byteL l) n)) (hn : n = nb l) : Octets w w.heap.size A n (bytesL l) := by
  subst hn
  refine ⟨bytesL_length l, fun k => ?_, fun h0 => ?_⟩
  · by_cases hk : k < nb l
    · rw [bytesL_get l k hk]; exact byteL_lt _ _
    · have : (bytesL l).getD k 0 = 0 := by simp only [List.getD]; rw [List.getElem?_eq_none (by rw [bytesL_length]; omega)]; rfl
      rw [this]; omega
  · obtain ⟨b, off, e, hb, hc⟩ := byteV_sees h h0
    refine ⟨b, off, e, hb, fun k hk => ?_⟩
    rw [hc k hk]
    show some (Value.int .u8 ((byteL l k : Nat) : Int)) = some (Value.int .u8 (((bytesL l).getD k 0 : Nat) : Int))
    rw [bytesL_get l k hk]
/-- what bytes tell has these bytes. -/
theorem there_bytes (bs : List Nat) (N : Nat) (hf : Fits bs N) (hb : ∀ k, bs.getD k 0 < 256) : nb (fromL bs N) = bs.length ∧ ∀ i, i < bs.length → byteL (fromL bs N) i = bs.getD i 0 := by
  refine ⟨by unfold nb; rw [fromL_length]; exact hf.2.1.symm, fun i hi => ?_⟩
  refine (eq_byteL (hb i) fun b hb8 => ?_).symm
  rw [fromL_get]
  have e : bitB bs (8 * i + b) = (bs.getD i 0).testBit b := by unfold bitB; rw [show (8 * i + b) / 8 = i by omega, show (8 * i + b) % 8 = b by omega]
  by_cases h : 8 * i + b < N
  · rw [e]; simp [h]
  · have := hf.2.2 (8 * i + b) (by omega) (by omega)
    rw [e] at this
    rw [this]; simp [h]
theorem strU_congr (f g : Nat → Nat) (n : Nat) (h : ∀ i, i < n → f i = g i) : strU f n = strU g n := by
  unfold strU
  congr 2
  apply List.map_congr_left
  intro i hi
  rw [h i (by simpa using hi)]

theorem back_many (A A' : Option Addr) (n n' c c' : Nat) (x : Int) (w : World) (hT : Tab w) (h : 500 < n ∨ 100 < n') (hn : n ≤ 9223372036854775807) (hn' : n' ≤ 9223372036854775807) :
    Calls Tryd.prog 5 #[.slice A n c, .slice A' n' c', .int .i64 x] w fun e w' => e = .returned (.bool true) ∧ w.grownBy w' none := by
  have HK := Lib.hid (knows_any w hT)
  clear hT
  by_cases h1 : 500 < n
  · clear h
    go_enter Tryd.func5, Tryd.ntmps5
    go_wp2_with fail
    refine HK.out.mono ?_
    rintro e w1 ⟨rfl, hg⟩
    have HG := Lib.hid hg
    clear hg
    go_wp2_with fail
    go_ret
    exact ⟨rfl, HG.out⟩
  · have h2 : 100 < n' := by omega
    clear h
    go_enter Tryd.func5, Tryd.ntmps5
    go_wp2_with fail
    refine HK.out.mono ?_
    rintro e w1 ⟨rfl, hg⟩
    have HG := Lib.hid hg
    clear hg
    go_wp2_with fail
    go_ret
    exact ⟨rfl, HG.out⟩
set_option maxRecDepth 100000 in
set_option maxHeartbeats 4000000 in
theorem back_few (A A' : Option Addr) (n n' c c' : Nat) (l : List Bool) (bs : List Nat) (x : Int) (hx : I64 x) (w : World) (hT : Tab w) (h : Bools w w.heap.size A n l) (h' : Octets w w.heap.size A' n' bs) (hn : n ≤ 500) (hn' : n' ≤ 100) :
    Calls Tryd.prog 5 #[.slice A n c, .slice A' n' c', .int .i64 x] w fun e w' => e = .returned (.bool true) ∧ w.grownBy w' none := by
  have HK := Lib.hid (knows_any w hT)
  have H := Lib.hid h
  have HN := Lib.hid h.1
  have H' := Lib.hid h'
  have HX := Lib.hid hx
  clear hT h h' hx
  go_enter Tryd.func5, Tryd.ntmps5
  go_wp2_with fail
  refine HK.out.mono ?_
  rintro e w1 ⟨rfl, hg⟩
  have HG1 := Lib.hid hg
  clear hg
  go_wp2_with fail
  refine (of_any A n c l w1 ((H.out.keep (below_of_grown HG1.out)).more HG1.out.size) (by omega)).mono ?_
  rintro e w2 ⟨g, B, k, d, rfl, hm, hg⟩
  have HM2 := Lib.hid (hm.lower (Nat.zero_le _))
  have HG2 := Lib.hid (grown_join HG1.out hg (.inr (by simp)))
  clear hm hg
  go_wp2_with fail
  refine (bytes_any _ l 0 w2 HM2.out.p (Nat.zero_le _)).mono ?_
  rintro e w3 ⟨A3, c3, rfl, ho, hg⟩
  have HO3 := Lib.hid (own_octets ho rfl)
  have HM3 := Lib.hid (HM2.out.grow hg)
  have HG3 := Lib.hid (grown_join HG2.out hg (.inr (by simp)))
  have hnb : nb l ≤ 100 := by unfold nb; rw [HN.out]; omega
  clear ho hg
  generalize hq : nb l = nbl at *
  clear hq
  go_wp2_with fail
  refine (from_yes A3 nbl c3 (bytesL l) n w3 HO3.out (by rw [← HN.out]; exact back_fits l (by rw [HN.out]; omega))).mono ?_
  rintro e w4 ⟨g4, B4, k4, d4, rfl, hm, hg⟩
  have HM4 := Lib.hid (show Mask w4 0 g4 B4 k4 d4 l by
    have h2 := hm.lower (Nat.zero_le _)
    rw [← HN.out, back_list] at h2
    exact h2)
  have HMM4 := Lib.hid (HM3.out.grow hg)
  have HG4 := Lib.hid (grown_join HG3.out hg (.inr (by simp)))
  clear hm hg
  go_wp2_with fail
  refine (from_any A' n' c' bs x HX.out (by omega) w4 ((H'.out.keep (below_of_grown HG4.out)).more HG4.out.size)).mono ?_
  rintro e w5 (⟨hf, g5, B5, k5, d5, rfl, hm, hg⟩ | ⟨hf, rfl, hg⟩)
  · obtain ⟨N, rfl⟩ : ∃ N : Nat, x = N := ⟨x.toNat, by have := hf.1; omega⟩
    have HF := Lib.hid (show Fits bs N from hf.2)
    have hN : N ≤ 2097152 := HF.out.1
    have HMY := Lib.hid (show Mask w5 0 g5 B5 k5 d5 (fromL bs N) from hm)
    have HMX := Lib.hid (HM4.out.grow hg)
    have HMM := Lib.hid (HMM4.out.grow hg)
    have HG5 := Lib.hid (grown_join HG4.out hg (.inr (by simp)))
    have HSB := Lib.hid (fun W (hW : w.grownBy W none) => str_of A' n' c' (fun k => bs.getD k 0) _ W ((H'.out.keep (below_of_grown hW)).2.2) (fun k _ => H'.out.2.1 k))
    have HTB := Lib.hid (there_bytes bs N HF.out H'.out.2.1)
    have HSEQ := Lib.hid (show strU (byteL (fromL bs N)) (nb (fromL bs N)) = strU (fun k => bs.getD k 0) n' by
      rw [HTB.out.1, H'.out.1]
      exact strU_congr _ _ _ fun i hi => HTB.out.2 i (by rw [H'.out.1]; exact hi))
    clear hm hg hf
    generalize hsu : strU (fun k => bs.getD k 0) n' = U at *
    clear hsu
    have hsbd := fun m => HSB.out (w5.drewN m) (grown_drewN HG5.out m)
    go_wp2_with fail
    have hHere := here w5
    go_region_held (fun w' => Here w') (exact here _) (first
      | (go_at_call 23; refine (bsame_any _ _ l l _ _ _ (HMX.out.drewN _).p (HMM.out.drewN _).p).mono ?_; rintro e w6 ⟨rfl, m6, hww⟩; subst hww; rw [show decide (l = l) = true from decide_eq_true rfl])
      | (go_at_call 17; refine (lawSame_any _ A n c l l _ _ _ (HMX.out.drewN _).p (H.out.keep (below_of_grown (grown_drewN HG5.out _))) (by omega)).mono ?_; rintro e w7 ⟨rfl, m7, hww⟩; subst hww; rw [show decide (l = l) = true from decide_eq_true rfl])
      | (go_at_call 21; refine (bytes_any _ (fromL bs N) 0 _ (HMY.out.drewN _).p (Nat.zero_le _)).mono ?_; rintro e w8 ⟨A8, c8, rfl, ho8, hg8⟩; have hs8 := str_new ho8; rw [HSEQ.out] at hs8; have HG8 := Lib.hid (grown_join (grown_drewN HG5.out _) hg8 (.inr (by simp))); have hs8b := HSB.out w8 HG8.out; have HMY8 := Lib.hid ((HMY.out.drewN _).grow hg8); clear ho8 hg8)
      | (go_at_call 24; refine (len_any _ (fromL bs N) _ _ HMY8.out.p).mono ?_; rintro e w9 ⟨rfl, hww⟩; subst hww; rw [fromL_length]))
    all_goals go_wp2
    all_goals go_ret
    all_goals exact ⟨rfl, HG8.out⟩
  · have HMX := Lib.hid (HM4.out.grow hg)
    have HMM := Lib.hid (HMM4.out.grow hg)
    have HG5 := Lib.hid (grown_join HG4.out hg (.inr (by simp)))
    clear hf hg
    have HC1 : Hid (∀ a, Calls Tryd.prog 23 #[.pointer (some ⟨g4, 0, none⟩), .pointer (some ⟨g, 0, none⟩)] (w5.drewN a) (Told true (w5.drewN a))) :=
      Lib.hid fun a => by
        have h2 := bsame_any _ _ l l _ _ _ (HMX.out.drewN a).p (HMM.out.drewN a).p
        rw [show decide (l = l) = true from decide_eq_true rfl] at h2
        exact h2
    have HC2 : Hid (∀ a, Calls Tryd.prog 17 #[.pointer (some ⟨g4, 0, none⟩), .slice A n c] (w5.drewN a) (Told true (w5.drewN a))) :=
      Lib.hid fun a => by
        have h2 := lawSame_any _ A n c l l _ _ _ (HMX.out.drewN a).p (H.out.keep (below_of_grown (grown_drewN HG5.out a))) (by omega)
        rw [show decide (l = l) = true from decide_eq_true rfl] at h2
        exact h2
    go_wp2_with fail
    go_quiet ((first | (go_at_call 23; exact Calls.quiet_of (HC1.out _)) | (go_at_call 17; exact Calls.quiet_of (HC2.out _))))
    go_wp2
    go_ret
    exact ⟨rfl, grown_drewN HG5.out _⟩
theorem bitsBack_walk (A A' : Option Addr) (n n' c c' : Nat) (l : List Bool) (bs : List Nat) (x : Int) (hx : I64 x) (w : World) (hT : Tab w) (h : Bools w w.heap.size A n l) (h' : Octets w w.heap.size A' n' bs) (hn : n ≤ 9223372036854775807) (hn' : n' ≤ 9223372036854775807) :
    Calls Tryd.prog 5 #[.slice A n c, .slice A' n' c', .int .i64 x] w fun e w' => e = .returned (.bool true) ∧ Below w.heap.size w w' := by
  by_cases h0 : 500 < n ∨ 100 < n'
  · exact (back_many A A' n n' c c' x w hT h0 hn hn').mono fun e w' ⟨h1, h2⟩ => ⟨h1, below_of_grown h2⟩
  · exact (back_few A A' n n' c c' l bs x hx w hT h h' (by omega) (by omega)).mono fun e w' ⟨h1, h2⟩ => ⟨h1, below_of_grown h2⟩
end Go.Proofs.YtfnnnbpceeeecaaDoor
