/-
  Layer 6: the walk of HashPlays, whatever holds the table.
-/
import Derived.Test.YtfemfkiamipipaaFinds6
namespace Go.Proofs.Ytfemfkiamipipaa
open Go.ChangeShapes Go.WideShapes Go.ChangeAt Go.RowKit
set_option linter.unusedVariables false

theorem Labs.cells {w : World} {B n k bb off : Nat} {l : List Lab} (h : Labs w B (some ⟨bb, off, none⟩) n l) (hk : k < n) : w.cell? ⟨bb, off + k * 3, none⟩ = some (.int .u8 (l.getD k noLab).k) ∧ w.cell? ⟨bb, off + k * 3 + 1, none⟩ = some (.int .i64 (l.getD k noLab).n) ∧ w.cell? ⟨bb, off + k * 3 + 2, none⟩ = some (.string (l.getD k noLab).s) := by
  obtain ⟨b, o, e, _, hc⟩ := h.at_ hk
  injection e with e
  injection e with e1 e2
  subst e1
  subst e2
  exact hc
theorem RTab.has {w : World} {G : Nat → Prop} {b : Nat} {l : List Lab} (h : RTab w G b l) : G b := by
  obtain ⟨_, _, _, _, _, _, h1, _⟩ := h
  exact h1
theorem RTab.opened {w : World} {G : Nat → Prop} {b : Nat} {l : List Lab} (h : RTab w G b l) : ∃ A c base, Box w b 47 #[.slice A l.length c] ∧ OwnL w base 39 A l.length c l := by
  obtain ⟨A, n, c, base, hb, ho, _, _⟩ := h
  obtain rfl := ho.1
  exact ⟨A, c, base, hb, ho⟩
theorem newB_apart {F G : Nat → Prop} {w1 w2 w3 : World} (hF : ∀ x, F x → x < w1.heap.size) (hG : ∀ x, G x → x < w1.heap.size) (hd : ∀ x, F x → ¬ G x) (h12 : w1.heap.size ≤ w2.heap.size) : ∀ x, NewB F w1 w2 x → ¬ NewB G w2 w3 x := by
  intro x hx hy
  rcases hx with hx | hx <;> rcases hy with hy | hy
  · exact hd x hx hy
  · have := hF x hx; omega
  · have := hG x hy; omega
  · omega
theorem findV_some (o : Option Nat) : ∃ (z : Int) (b : Bool), findV o = .tuple #[.int .i64 z, .bool b] := by
  cases o with
  | none => exact ⟨0, false, rfl⟩
  | some i => exact ⟨i, true, rfl⟩
theorem add_oks {l : List Lab} {a : Lab} (h : Oks l) (ha : okL a) : Oks (addE l a).1 := by
  rcases add_cases l a with ⟨e, _⟩ | ⟨k, e, _⟩
  · rw [e]; exact oks_snoc h ha
  · rw [e]; exact h
theorem new_all : ∀ (t acc : List Lab), acc.length ≤ 4096 → Oks acc → (∀ x ∈ t, okL x) → (newE acc t).2 = 0 → (newE acc t).1.length ≤ 4096 ∧ Oks (newE acc t).1
  | [], acc, h1, h2, _, _ => ⟨h1, h2⟩
  | a :: t, acc, h1, h2, h3, h4 => by
    rw [newE] at h4 ⊢
    by_cases e : (addE acc a).2.2 = 0
    · rw [if_pos e] at h4 ⊢
      exact new_all t _ (add_len h1) (add_oks h2 (h3 a (by simp))) (fun x hx => h3 x (by simp [hx])) h4
    · rw [if_neg e] at h4
      exact absurd h4 e
theorem new_short : ∀ (t acc : List Lab), (newE acc t).2 ≤ 9
  | [], acc => by rw [newE]; exact Nat.zero_le _
  | a :: t, acc => by
    rw [newE]
    split
    · exact new_short t _
    · exact add_short
set_option maxRecDepth 100000 in
set_option maxHeartbeats 8000000 in
theorem hashPlays_any {T : World → (Nat → Prop) → Addr → List Lab → Prop} (S : TabSays T) (A A' : Option Addr) (n c n' c' : Nat) (l m : List Lab) (w : World) (h : Labs w w.heap.size A n l) (h' : Labs w w.heap.size A' n' m) (hn : n ≤ 9223372036854775807) (hn' : n' ≤ 9223372036854775807) (hl : ∀ i, LabIn (l.getD i noLab)) (hm : ∀ i, LabIn (m.getD i noLab)) :
    Calls Try.prog 3 #[.slice A n c, .slice A' n' c'] w (ToldG (.bool true) w) := by
  have HK := Lib.hid (fun w' => knows6_any S w')
  have HS := Lib.hid S
  have H := Lib.hid h
  have HM := Lib.hid h'
  have HL := Lib.hid h.1
  have HML := Lib.hid h'.1
  have HIN := Lib.hid hl
  have HIM := Lib.hid hm
  have HLI := Lib.hid (light_any A n c l _ _ h hn)
  have HLM := Lib.hid (light_any A' n' c' m _ _ h' hn')
  clear h h' hl hm S
  go_enter Try.func3, Try.ntmps3
  go_wp2_with fail
  refine HLI.out.mono ?_
  rintro e w2 ⟨b, rfl, hli, rfl⟩
  have HLT := Lib.hid hli
  clear hli
  cases b
  · go_wp2_with fail
    refine (HK.out _).mono ?_
    rintro e w3 ⟨rfl, hg⟩
    have HG3 := Lib.hid hg
    clear hg
    go_wp2_with fail
    go_ret
    exact ⟨rfl, HG3.out⟩
  · go_wp2_with fail
    refine HLM.out.mono ?_
    rintro e w2 ⟨b, rfl, hli, rfl⟩
    have HMT := Lib.hid hli
    clear hli
    cases b
    · go_wp2_with fail
      refine (HK.out _).mono ?_
      rintro e w3 ⟨rfl, hg⟩
      have HG3 := Lib.hid hg
      clear hg
      go_wp2_with fail
      go_ret
      exact ⟨rfl, HG3.out⟩
    · by_cases h100 : n' ≤ 100
      · have d1 : decide ((100 : Int) < (n' : Int)) = false := by simp; omega
        have HN4 := Lib.hid (show n ≤ 400 by have := (HLT.out (by trivial)).1; rw [HL.out] at this; exact this)
        have HOK := Lib.hid (fun i (hi : i < n) => show okL (l.getD i noLab) from by
          obtain ⟨h1, h2, h3, h4⟩ := HIN.out i
          exact ⟨h1, h2, h3, h4, by have := (HLT.out (by trivial)).2 i (by rw [HL.out]; exact hi); omega⟩)
        have HOM := Lib.hid (fun i (hi : i < n') => show okL (m.getD i noLab) from by
          obtain ⟨h1, h2, h3, h4⟩ := HIM.out i
          exact ⟨h1, h2, h3, h4, by have := (HMT.out (by trivial)).2 i (by rw [HML.out]; exact hi); omega⟩)
        have HOA := Lib.hid (show ∀ x ∈ l, okL x from fun x hx => by
          obtain ⟨i, hi, rfl⟩ := List.getElem_of_mem hx
          have := HOK.out i (by rw [← HL.out]; exact hi)
          rw [List.getD_eq_getElem?_getD, List.getElem?_eq_getElem hi] at this
          exact this)
        have HOWN := Lib.hid (fun w' (hg : w2.grownBy w' none) => (lawOwn_any A n c l w' (H.out.grow hg) (by have := HN4.out; omega)))
        have HNW := Lib.hid (fun A2 c2 k w' (h : Labs w' w'.heap.size A2 k l) => HS.out.new A2 k c2 l w' h (by have := h.1; have := HL.out; have := HN4.out; omega) (fun i hi => HOK.out i (by have := h.1; have := HL.out; omega)))
        have HRN := Lib.hid (fun w' (hg : w2.grownBy w' none) => ref6New_any A n c l w' (H.out.grow hg) (by have := HN4.out; omega) (fun i hi => (HOK.out i hi).2.2.2.2))
        have HNA := Lib.hid (new_all l [] (by simp) (fun i hi => absurd hi (by simp)) HOA.out)
        have HNS := Lib.hid (new_short l [])
        generalize newE [] l = r at *
        obtain ⟨ll, k⟩ := r
        have HNU := Lib.hid (fun w' => num6_any k HNS.out w')
        clear hn hn'
        go_wp2_with fail
        refine (HK.out _).mono ?_
        rintro e w3 ⟨rfl, hg⟩
        have HG3 := Lib.hid hg
        clear hg d1
        go_wp2_with fail
        refine (HOWN.out _ HG3.out).mono ?_
        rintro e w4 ⟨A2, c2, rfl, ho, hg⟩
        have HG4 := Lib.hid (grown_join HG3.out hg (.inr (by simp)))
        have HNW4 := Lib.hid (HNW.out A2 c2 _ w4 ho.labs)
        clear hg ho
        go_wp2_with fail
        refine HNW4.out.mono ?_
        intro e w5 h5
        by_cases hk : k = 0
        · subst hk
          obtain ⟨q, F, rfl, ht, hF, hg⟩ := MadeO.ok h5
          have HG5 := Lib.hid (grown_join HG4.out hg (.inr (by simp)))
          have HT5 := Lib.hid ht
          have HF5 := Lib.hid (fun x (hx : F x) => show w2.heap.size ≤ x ∧ x < w5.heap.size from ⟨Nat.le_trans HG4.out.size (hF x hx).1, (hF x hx).2⟩)
          clear ht hF hg h5 HNW4
          go_wp2_with fail
          refine (HRN.out _ HG5.out).mono ?_
          rintro e w6 (⟨_, b, G, rfl, hr, hG, hg⟩ | ⟨h0, _⟩)
          · have HG6 := Lib.hid (grown_join HG5.out hg (.inr (by simp)))
            have HT6 := Lib.hid (HS.out.grow HT5.out hg)
            have HR6 := Lib.hid hr
            have HD6 := Lib.hid (fun x (hx : F x) (hy : G x) => show False by have := (HF5.out x hx).2; have := (hG x hy).1; omega)
            have HF6 := Lib.hid (fun x (hx : F x) => show w2.heap.size ≤ x ∧ x < w6.heap.size from ⟨(HF5.out x hx).1, Nat.lt_of_lt_of_le (HF5.out x hx).2 hg.size⟩)
            have HB6 := Lib.hid (fun x (hx : G x) => show w2.heap.size ≤ x ∧ x < w6.heap.size from ⟨Nat.le_trans HG5.out.size (hG x hx).1, (hG x hx).2⟩)
            clear hr hG hg
            go_wp2_with fail
            refine (HNU.out _).mono ?_
            rintro e w7 ⟨rfl, rfl⟩
            have HNA2 := Lib.hid (HNA.out (by trivial))
            go_wp2_with fail
            go_loopw [9, 10, 11, 12, 13, 14, 15, 16, 17] (fun i _ _ _ _ _ _ _ _ wr => ∃ (x : Nat) (ll : List Lab) (F G : Nat → Prop), x ≤ n' ∧ i = .int .i64 x ∧ T wr F q ll ∧ RTab wr G b ll ∧ (∀ y, F y → w2.heap.size ≤ y ∧ y < wr.heap.size) ∧ (∀ y, G y → w2.heap.size ≤ y ∧ y < wr.heap.size) ∧ (∀ y, F y → ¬ G y) ∧ ll.length ≤ 4096 ∧ Oks ll ∧ w2.grownBy wr none) (fun i _ _ _ _ _ _ _ _ _ => n' - (intOf i).toNat)
            case atStart => exact ⟨0, ll, F, G, by omega, rfl, HT6.out, HR6.out, HF6.out, HB6.out, HD6.out, HNA2.out.1, HNA2.out.2, HG6.out⟩
            case round =>
              clear HT6 HR6 HF6 HB6 HD6 HNA2 HT5 HF5 HG5 HG6 HG4 HG3 HNW HRN HOWN HNU HNS HNA
              obtain ⟨x, ll, F, G, hx, rfl, ht, hr, hF, hG, hd, hle, hoks, hg⟩ := hrel
              have HT := Lib.hid ht
              have HR := Lib.hid hr
              have HF := Lib.hid hF
              have HGB := Lib.hid hG
              have HD := Lib.hid hd
              have HLE := Lib.hid hle
              have HOS := Lib.hid hoks
              have HG := Lib.hid hg
              clear ht hr hF hG hd hle hoks
              by_cases hlt : x < n'
              · obtain ⟨bb, off, rfl, _, _⟩ := (HM.out.grow hg).at_ hlt
                have HC := Lib.hid (fun w' (hg : w2.grownBy w' none) => (HM.out.grow hg).cells hlt)
                have HOX := Lib.hid (HOM.out x hlt)
                generalize m.getD x noLab = y at *
                obtain ⟨yk, yn, ys⟩ := y
                obtain ⟨k0, k1, k2⟩ := HC.out _ hg
                try dsimp only at k0 k1 k2
                have HF1 := Lib.hid (HS.out.find F q ll ⟨yk, yn, ys⟩ wr HT.out HOX.out)
                have HF2 := Lib.hid (fun w' h => ref6Find_any b G ll yk yn ys w' h (by have := HLE.out; omega))
                obtain ⟨z, bz, hz⟩ := findV_some (numOf ll ⟨yk, yn, ys⟩)
                rw [hz] at HF1 HF2
                have HAD := Lib.hid (fun w' h => HS.out.add F q ll ⟨yk, yn, ys⟩ w' h HOX.out)
                have HAR := Lib.hid (fun w' h => ref6Add_any b G ll yk yn ys w' h HLE.out HOX.out.2.2.2.2)
                have HAL := Lib.hid (add_len (a := ⟨yk, yn, ys⟩) HLE.out)
                have HAO := Lib.hid (add_oks HOS.out HOX.out)
                have HAS := Lib.hid (add_short (l := ll) (a := ⟨yk, yn, ys⟩))
                generalize addE ll ⟨yk, yn, ys⟩ = r at *
                obtain ⟨l2, num, er⟩ := r
                dsimp only at HAL HAO HAS
                clear hg hz
                go_wp2_with fail
                refine HF1.out.mono ?_
                rintro e w3 ⟨rfl, hg⟩
                have HG3 := Lib.hid (grown_join HG.out hg (.inr (by simp)))
                have HT3 := Lib.hid (HS.out.grow HT.out hg)
                have HR3 := Lib.hid (HR.out.grow hg)
                have HZ3 := Lib.hid hg.size
                clear hg k0 k1 k2
                obtain ⟨k0, k1, k2⟩ := HC.out _ HG3.out
                try dsimp only at k0 k1 k2
                go_wp2_with fail
                refine (HF2.out _ HR3.out).mono ?_
                rintro e w4 ⟨rfl, hg⟩
                have HG4 := Lib.hid (grown_join HG3.out hg (.inr (by simp)))
                have HT4 := Lib.hid (HS.out.grow HT3.out hg)
                have HR4 := Lib.hid (HR3.out.grow hg)
                have HZ4 := Lib.hid (Nat.le_trans HZ3.out hg.size)
                clear hg k0 k1 k2
                obtain ⟨k0, k1, k2⟩ := HC.out _ HG4.out
                try dsimp only at k0 k1 k2
                go_wp2_with fail
                refine (HAD.out _ HT4.out).mono ?_
                rintro e w5 ⟨rfl, ht, hs⟩
                dsimp only
                have HG5 := Lib.hid (Spare.after HG4.out hs (fun y hy => (HF.out y hy).1))
                have HT5 := Lib.hid ht
                have HR5 := Lib.hid (HR4.out.keep hs (fun y hy hf => HD.out y hf hy))
                have HZ5 := Lib.hid hs.size
                clear ht hs k0 k1 k2
                obtain ⟨k0, k1, k2⟩ := HC.out _ HG5.out
                try dsimp only at k0 k1 k2
                go_wp2_with fail
                refine (HAR.out _ HR5.out).mono ?_
                rintro e w6 ⟨rfl, hr, hs⟩
                dsimp only
                have HG6 := Lib.hid (Spare.after HG5.out hs (fun y hy => by rw [hy]; exact (HGB.out _ HR5.out.has).1))
                have HT6 := Lib.hid (HS.out.keep HT5.out hs (fun y hy he => by
                  rw [he] at hy
                  rcases hy with hy | hy
                  · exact HD.out _ hy HR5.out.has
                  · have := (HGB.out _ HR5.out.has).2; have := HZ4.out; omega))
                have HR6 := Lib.hid hr
                have HF6 := Lib.hid (fun y (hy : NewB F w4 w5 y) => show w2.heap.size ≤ y ∧ y < w6.heap.size by
                  have h1 := newB_in (B := w2.heap.size) (w' := w5) (fun y hy => ⟨(HF.out y hy).1, Nat.lt_of_lt_of_le (HF.out y hy).2 HZ4.out⟩) HG4.out.size HZ5.out y hy
                  exact ⟨h1.1, Nat.lt_of_lt_of_le h1.2 hs.size⟩)
                have HB6 := Lib.hid (newB_in (B := w2.heap.size) (F := G) (fun y hy => ⟨(HGB.out y hy).1, Nat.lt_of_lt_of_le (HGB.out y hy).2 (Nat.le_trans HZ4.out HZ5.out)⟩) HG5.out.size hs.size)
                have HD6 := Lib.hid (newB_apart (w3 := w6) (w1 := w4) (w2 := w5) (fun y hy => Nat.lt_of_lt_of_le (HF.out y hy).2 HZ4.out) (fun y hy => Nat.lt_of_lt_of_le (HGB.out y hy).2 HZ4.out) HD.out HZ5.out)
                clear hr hs k0 k1 k2
                obtain ⟨AR, cR, bR, hbR, hoR⟩ := HR6.out.opened
                have BB := Lib.hid (hbR.get 0)
                have HBR := Lib.hid hbR
                have HNU := Lib.hid (fun w' => (num6_any er HAS.out w').mono fun e w'' (h : e = _ ∧ w'' = w') => show ToldG (.int .i64 (er : Int)) w' e w'' from ⟨h.1, by rw [h.2]; exact grown_refl _ _⟩)
                have HRO := Lib.hid (fun w' (hg : w6.grownBy w' none) => HS.out.room _ q l2 w' (HS.out.grow HT6.out hg))
                have HRR := Lib.hid (fun w' (hg : w6.grownBy w' none) => (ref6Room_any b _ l2 w' (HR6.out.grow hg) HAL.out).mono fun e w'' (h : e = _ ∧ w'' = w') => show ToldG (.int .i64 (roomE l2.length)) w' e w'' from ⟨h.1, by rw [h.2]; exact grown_refl _ _⟩)
                have HLN := Lib.hid (fun w' (hg : w6.grownBy w' none) => HS.out.len _ q l2 w' (HS.out.grow HT6.out hg))
                have HGC := Lib.hid (grown_refl w6 none)
                have HLL := Lib.hid (show l2.length = l2.length from rfl)
                generalize hl2 : l2.length = n2 at *
                generalize roomE n2 = R2 at *
                have HN2 := Lib.hid hl2
                clear hl2 hbR hoR
                go_wp2_with fail
                go_region_held3 (fun w' => w'.cell? ⟨b, 0, none⟩ = some (.slice AR n2 cR)) (first | exact KEEP.out | exact BB.out) (first
                  | (go_at_call 12; refine (HNU.out _).mono ?_; rintro e w9 ⟨rfl, hg⟩; have HGC := Lib.hid (grown_join (grown_drewN HGC.out _) hg (.inr (by simp))); clear hg; have KEEP := Lib.hid ((HBR.out.grown HGC.out (by simp)).get 0))
                  | (go_at_call 17; refine (HRO.out _ HGC.out).mono ?_; rintro e w9 ⟨rfl, hg⟩; have HGC := Lib.hid (grown_join HGC.out hg (.inr (by simp))); clear hg; have KEEP := Lib.hid ((HBR.out.grown HGC.out (by simp)).get 0))
                  | (go_at_call 18; refine (HRR.out _ HGC.out).mono ?_; rintro e w9 ⟨rfl, hg⟩; have HGC := Lib.hid (grown_join HGC.out hg (.inr (by simp))); clear hg; have KEEP := Lib.hid ((HBR.out.grown HGC.out (by simp)).get 0))
                  | (go_at_call 19; refine (HLN.out _ HGC.out).mono ?_; rintro e w9 ⟨rfl, hg⟩; have HGC := Lib.hid (grown_join HGC.out hg (.inr (by simp))); clear hg; have KEEP := Lib.hid ((HBR.out.grown HGC.out (by simp)).get 0)))
                all_goals go_wp2
                all_goals go_roundw
                case rel => exact ⟨x + 1, l2, NewB F w4 w5, NewB G w5 w6, by omega, by go_num, HS.out.grow HT6.out HGC.out, HR6.out.grow HGC.out, (fun y hy => ⟨(HF6.out y hy).1, Nat.lt_of_lt_of_le (HF6.out y hy).2 HGC.out.size⟩), (fun y hy => ⟨(HB6.out y hy).1, Nat.lt_of_lt_of_le (HB6.out y hy).2 HGC.out.size⟩), HD6.out, by first | exact HAL.out | (rw [HN2.out]; exact HAL.out), HAO.out, grown_join HG6.out HGC.out (.inr (by simp))⟩
                case measure => simp [intOf]; omega
              · obtain rfl : n' = x := by omega
                clear hg
                obtain ⟨AR, cR, bR, hbR, hoR⟩ := HR.out.opened
                have BB := Lib.hid (hbR.get 0)
                have HBR := Lib.hid hbR
                have HLO := Lib.hid (fun w' (hg : wr.grownBy w' none) => HS.out.longest F q ll w' (HS.out.grow HT.out hg))
                have HRL := Lib.hid (fun w' (hg : wr.grownBy w' none) => ref6Longest_any b G ll w' (HR.out.grow hg) HLE.out HOS.out)
                have HLB := Lib.hid (fun w' (hg : wr.grownBy w' none) => HS.out.labels F q ll w' (HS.out.grow HT.out hg))
                have HRF := Lib.hid (fun A2 c2 w' (h : Labs w' w'.heap.size A2 ll.length ll) => lawRef_any A2 ll.length c2 ll w' h (by have := HLE.out; omega))
                have HSM := Lib.hid (fun A2 c2 w' (h : Labs w' w'.heap.size A2 ll.length ll) (hg : wr.grownBy w' none) => show Calls Try.prog 22 #[.slice A2 ll.length c2, .slice AR ll.length cR] w' (ToldG (.bool true) w') from (ref5Same_any A2 AR ll.length ll.length c2 cR ll ll _ _ w' h (hoR.grow hg).labs (by have := HLE.out; omega) (by have := HLE.out; omega)).mono fun e w'' (h3 : ToldD _ w' e w'') => by
                  obtain ⟨rfl, m, rfl⟩ := h3
                  exact ⟨by rw [decide_eq_true rfl], grown_drewN (grown_refl _ _) _⟩)
                have HGC := Lib.hid (grown_refl wr none)
                unfold GaveLabs at HLB HRF
                generalize longE (roomE ll.length) (hsOf ll) ll.length = LL at *
                generalize hll : ll.length = nn at *
                have e1 : decide ((n' : Int) < (n' : Int)) = false := by simp
                clear hbR hoR hlt hll
                go_wp2_with fail
                go_region_held3 (fun w' => w'.cell? ⟨b, 0, none⟩ = some (.slice AR nn cR)) (first | exact KEEP.out | exact BB.out) (first
                  | (go_at_call 20; refine (HLO.out _ (grown_drewN HGC.out _)).mono ?_; rintro e w9 ⟨rfl, hg⟩; have HGC := Lib.hid (grown_join (grown_drewN HGC.out _) hg (.inr (by simp))); clear hg; have KEEP := Lib.hid ((HBR.out.grown HGC.out (by simp)).get 0))
                  | (go_at_call 21; refine (HRL.out _ HGC.out).mono ?_; rintro e w9 ⟨rfl, hg⟩; have HGC := Lib.hid (grown_join HGC.out hg (.inr (by simp))); clear hg; have KEEP := Lib.hid ((HBR.out.grown HGC.out (by simp)).get 0))
                  | (go_at_call 24; refine (HLB.out _ HGC.out).mono ?_; rintro e w9 ⟨A7, c7, rfl, ho7, hg⟩; have HGC := Lib.hid (grown_join HGC.out hg (.inr (by simp))); have HL7 := Lib.hid ho7.labs; clear ho7; clear hg; have KEEP := Lib.hid ((HBR.out.grown HGC.out (by simp)).get 0))
                  | (go_at_call 23; refine (HRF.out A7 c7 _ HL7.out).mono ?_; rintro e w9 ⟨A8, c8, rfl, ho8, hg⟩; have HGC := Lib.hid (grown_join HGC.out hg (.inr (by simp))); have HL8 := Lib.hid ho8.labs; clear ho8; clear hg; have KEEP := Lib.hid ((HBR.out.grown HGC.out (by simp)).get 0))
                  | (go_at_call 22; refine (HSM.out A8 c8 _ HL8.out HGC.out).mono ?_; rintro e w9 ⟨rfl, hg⟩; have HGC := Lib.hid (grown_join HGC.out hg (.inr (by simp))); clear hg; have KEEP := Lib.hid ((HBR.out.grown HGC.out (by simp)).get 0)))
                all_goals go_wp2
                all_goals go_ret
                all_goals exact ⟨rfl, grown_join HG.out HGC.out (.inr (by simp))⟩
          · exact absurd rfl h0
        · rcases h5 with ⟨h0, _⟩ | ⟨_, rfl, hg⟩
          · exact absurd h0 hk
          · have HG5 := Lib.hid (grown_join HG4.out hg (.inr (by simp)))
            clear hg HNW4
            dsimp only
            go_wp2_with fail
            refine (HRN.out _ HG5.out).mono ?_
            rintro e w6 (⟨h0, _⟩ | ⟨_, rfl, hg⟩)
            · exact absurd h0 hk
            · have HG6 := Lib.hid (grown_join HG5.out hg (.inr (by simp)))
              clear hg
              dsimp only
              go_wp2_with fail
              refine (HNU.out _).mono ?_
              rintro e w7 ⟨rfl, rfl⟩
              go_wp2_with fail
              go_loopw [9, 10, 11, 12, 13, 14, 15, 16, 17] (fun i _ _ _ _ _ _ _ _ wr => i = .int .i64 0 ∧ wr = w7) (fun _ _ _ _ _ _ _ _ _ _ => 0)
              case atStart => exact ⟨rfl, rfl⟩
              case round =>
                obtain ⟨rfl, rfl⟩ := hrel
                by_cases h0n : 0 < n'
                · have e1 : decide ((0 : Int) < (n' : Int)) = true := by simp; omega
                  go_wp2_with fail
                  go_quiet (fail)
                  go_wp2_with fail
                  go_ret
                  exact ⟨rfl, grown_drewN HG6.out _⟩
                · have e1 : decide ((0 : Int) < (n' : Int)) = false := by simp; omega
                  go_wp2_with fail
                  go_quiet (fail)
                  go_wp2_with fail
                  go_ret
                  exact ⟨rfl, grown_drewN HG6.out _⟩
      · have d1 : decide ((100 : Int) < (n' : Int)) = true := by simp; omega
        go_wp2_with fail
        refine (HK.out _).mono ?_
        rintro e w3 ⟨rfl, hg⟩
        have HG3 := Lib.hid hg
        clear hg
        go_wp2_with fail
        go_ret
        exact ⟨rfl, HG3.out⟩
end Go.Proofs.Ytfemfkiamipipaa
