/-
  THE WALK OF BufPlays: cells are put, filled, copied and told call by call.
-/
import Derived.Test.YtabkgdichlebmaaRound3
namespace Go.Proofs.Ytabkgdichlebmaa
open Go.ChangeShapes Go.WideShapes Go.ChangeAt Go.RowKit
set_option linter.unusedVariables false

set_option maxRecDepth 100000 in
theorem plays3_many (A A' A2 : Option Addr) (n n' k c c' c2 : Nat) (w : World) (h : 200 < n ∨ 200 < n' ∨ 60 < k) (hn : n ≤ 9223372036854775807) (hn' : n' ≤ 9223372036854775807) (hk : k ≤ 9223372036854775807) :
    Calls Try.prog 3 #[.slice A n c, .slice A' n' c', .slice A2 k c2] w (Gave (.bool true) w) := by
  by_cases h1 : 200 < n
  · clear h
    go_enter Try.func3, Try.ntmps3
    go_wp2_with fail
    refine (knows3_any _).mono ?_
    rintro e w1 ⟨rfl, hg⟩
    have HG := Lib.hid hg
    clear hg
    go_wp2_with fail
    go_ret
    exact ⟨rfl, HG.out⟩
  · by_cases h2 : 200 < n'
    · clear h
      go_enter Try.func3, Try.ntmps3
      go_wp2_with fail
      refine (knows3_any _).mono ?_
      rintro e w1 ⟨rfl, hg⟩
      have HG := Lib.hid hg
      clear hg
      go_wp2_with fail
      go_ret
      exact ⟨rfl, HG.out⟩
    · have h3 : 60 < k := by omega
      clear h
      go_enter Try.func3, Try.ntmps3
      go_wp2_with fail
      refine (knows3_any _).mono ?_
      rintro e w1 ⟨rfl, hg⟩
      have HG := Lib.hid hg
      clear hg
      go_wp2_with fail
      go_ret
      exact ⟨rfl, HG.out⟩
set_option maxRecDepth 100000 in
set_option maxHeartbeats 8000000 in
theorem plays3_few (A A' A2 : Option Addr) (n n' k c c' c2 : Nat) (l m : List Cel) (ds : List Deed3) (w : World) (h : Cels w w.heap.size A n l) (h' : Cels w w.heap.size A' n' m) (hA : A = none → c = 0) (hA' : A' = none → c' = 0) (ha : Acts3 w w.heap.size A2 k ds) (hn : n ≤ 200) (hn' : n' ≤ 200) (hk : k ≤ 60) :
    Calls Try.prog 3 #[.slice A n c, .slice A' n' c', .slice A2 k c2] w (Gave (.bool true) w) := by
  have H := Lib.hid h
  have H' := Lib.hid h'
  have HAN := Lib.hid hA
  have HAN' := Lib.hid hA'
  have HA := Lib.hid ha
  have HN := Lib.hid h.1
  have HN' := Lib.hid h'.1
  clear h h' hA hA' ha
  go_enter Try.func3, Try.ntmps3
  go_wp2_with fail
  refine (knows3_any _).mono ?_
  rintro e w1 ⟨rfl, hg⟩
  have HG1 := Lib.hid hg
  clear hg
  go_wp2_with fail
  refine (lawCells_any A n c l w1 (H.out.grow HG1.out) (by omega)).mono ?_
  rintro e w2 ⟨A3, c3, rfl, ho, hg⟩
  rw [HN.out] at ho
  rw [HN.out]
  have HO2 := Lib.hid ho
  have HG2 := Lib.hid (join0 HG1.out hg)
  clear ho hg
  go_wp2_with fail
  refine (bufOf_any A3 n c3 l w2 HO2.out.cels (by omega)).mono ?_
  rintro e w3 ⟨gb, mpb, Ab, cb, rfl, hb, hg⟩
  have HB3 := Lib.hid hb
  have HG3 := Lib.hid (join0 HG2.out hg)
  have HS3 := Lib.hid (And.intro HG2.out.size hg.size)
  clear hb hg
  go_wp2_with fail
  refine (lawCells_any A' n' c' m w3 (H'.out.grow HG3.out) (by omega)).mono ?_
  rintro e w4 ⟨A4, c4, rfl, ho, hg⟩
  rw [HN'.out] at ho
  rw [HN'.out]
  have HO4 := Lib.hid ho
  have HB4 := Lib.hid (HB3.out.grow hg)
  have HG4 := Lib.hid (join0 HG3.out hg)
  have HS4 := Lib.hid hg.size
  clear ho hg
  go_wp2_with fail
  refine (bufOf_any A4 n' c4 m w4 HO4.out.cels (by omega)).mono ?_
  rintro e w5 ⟨go, mpo, Ao, co, rfl, hb, hg⟩
  have HI : Hid (Stand w w2.heap.size w5.heap.size A A' (some ⟨gb, 0, none⟩) (some ⟨go, 0, none⟩) n c n' c' l m w5) := Lib.hid (by
    have hw5 := join0 HG4.out hg
    have s5 := hg.size
    have s3 := HS3.out
    have s4 := HS4.out
    refine ⟨⟨H.out.grow hw5, HAN.out, fun h0 a e => .inl ?_⟩, ⟨H'.out.grow hw5, HAN'.out, fun h0 a e => .inl ?_⟩, ?_, hw5, s3.1, Nat.le_refl _, hn, hn'⟩
    · obtain ⟨b, off, e', hb, _⟩ := H.out.2 h0
      rw [e'] at e; injection e with e; subst e
      exact Nat.lt_of_lt_of_le hb s3.1
    · obtain ⟨b, off, e', hb, _⟩ := H'.out.2 h0
      rw [e'] at e; injection e with e; subst e
      exact Nat.lt_of_lt_of_le hb s3.1
    · exact ⟨_, _, gb, mpb, Ab, cb, _, _, go, mpo, Ao, co, rfl, rfl, HB4.out.grow hg, hb, .inl s4, Nat.le_refl _, by omega, by omega, Nat.le_refl _⟩)
  generalize w2.heap.size = L at *
  generalize w5.heap.size = U at *
  clear hb hg
  go_wp2_with fail
  go_loopw [0, 1, 7, 8, 9] (fun v0 v1 v7 v8 i wr => ∃ (x : Nat) (A A' p q : Option Addr) (n c n' c' : Nat) (l m : List Cel), x ≤ k ∧ i = .int .i64 x ∧ v0 = .slice A n c ∧ v1 = .slice A' n' c' ∧ v7 = .pointer p ∧ v8 = .pointer q ∧ Stand w L U A A' p q n c n' c' l m wr) (fun _ _ _ _ i _ => k - (intOf i).toNat)
  case atStart => exact ⟨0, A, A', _, _, n, c, n', c', l, m, by omega, rfl, rfl, rfl, rfl, rfl, HI.out⟩
  case round =>
    clear HI HB3 HB4 HO2 HO4 H H' HAN HAN' HN HN'
    obtain ⟨x, A, A', p, q, n, c, n', c', l, m, hx, rfl, rfl, rfl, rfl, rfl, hst⟩ := hrel
    have HST := Lib.hid hst
    clear hst
    by_cases hlt : x < k
    · obtain ⟨b, off, rfl, hb, hcells⟩ := (HA.out.keep (below_of_grown HST.out.2.2.2.1)).2.2 (by omega)
      have HCS := Lib.hid (hcells x hlt)
      clear hcells
      go_upto_block 1 with fail
      refine Code.wp_mono ?_ (rd_any (ds.getD x noDeed3) HST.out hlt hk (HA.out.2.1 x) HCS.out)
      rintro e a' w6 hp
      obtain ⟨rfl, f, A5, A5', p5, q5, n5, c5, n5', c5', l5, m5, hst, rfl⟩ := hp.open_
      have HST2 := Lib.hid hst
      clear hp hst
      go_wp2_with fail
      go_roundw
      case rel => exact ⟨x + 1, A5, A5', p5, q5, n5, c5, n5', c5', l5, m5, by omega, by go_num, rfl, rfl, rfl, rfl, HST2.out⟩
      case measure => simp [intOf]; omega
    · have HL := Lib.hid HST.out.1.1.1
      have HL' := Lib.hid HST.out.2.1.1.1
      have hn1 := HST.out.2.2.2.2.2.2.1
      have hn2 := HST.out.2.2.2.2.2.2.2
      have HG5 := Lib.hid HST.out.2.2.2.1
      have HX5 := Lib.hid HST.out.1.1
      have HX5' := Lib.hid HST.out.2.1.1
      obtain ⟨lo, hi, hbp⟩ := HST.out.2.2.1.bufp
      obtain ⟨lo', hi', hbq⟩ := HST.out.2.2.1.symm.bufp
      have HB5 := Lib.hid hbp
      have HQ5 := Lib.hid hbq
      have HNN := Lib.hid (show decide (norms (norms l) = norms l) = true from decide_eq_true (norms_norms l))
      have HNN' := Lib.hid (show decide (norms (norms m) = norms m) = true from decide_eq_true (norms_norms m))
      clear hbp hbq HST
      go_wp2_with fail
      refine (bufCells_any p l lo hi wr HB5.out).mono ?_
      rintro e w6 ⟨A6, c6, rfl, ho, hg⟩
      rw [norms_length, HL.out] at ho
      rw [norms_length, HL.out]
      have HO6 := Lib.hid ho
      have HX6' := Lib.hid (HX5'.out.grow hg)
      have HG6 := Lib.hid (join0 HG5.out hg)
      have HX6 := Lib.hid (HX5.out.grow hg)
      have HB6 := Lib.hid (HB5.out.grow hg)
      have HQ6 := Lib.hid (HQ5.out.grow hg)
      clear hg ho
      go_wp2_with fail
      refine (lawRefs_any A6 n c6 (norms l) w6 HO6.out.cels (by omega)).mono ?_
      rintro e w7 ⟨A7, c7, rfl, ho, hg⟩
      rw [norms_length, HL.out] at ho
      rw [norms_length, HL.out]
      have HO7 := Lib.hid ho
      have HX7' := Lib.hid (HX6'.out.grow hg)
      have HG7 := Lib.hid (join0 HG6.out hg)
      have HX7 := Lib.hid (HX6.out.grow hg)
      have HQ7 := Lib.hid (HQ6.out.grow hg)
      clear hg ho
      go_wp2_with fail
      refine (ref3Same_any A7 A n n c7 c (norms l) l w7 HO7.out.cels HX7.out (by omega) (by omega)).mono ?_
      rw [HNN.out]
      rintro e w8 ⟨rfl, hg⟩
      have HX8' := Lib.hid (HX7'.out.grow hg)
      have HG8 := Lib.hid (join0 HG7.out hg)
      have HX8 := Lib.hid (HX7.out.grow hg)
      have HQ8 := Lib.hid (HQ7.out.grow hg)
      clear hg
      go_wp2_with fail
      refine (bufCells_any q m lo' hi' w8 HQ8.out).mono ?_
      rintro e w9 ⟨A9, c9, rfl, ho, hg⟩
      rw [norms_length, HL'.out] at ho
      rw [norms_length, HL'.out]
      have HO9 := Lib.hid ho
      have HX9' := Lib.hid (HX8'.out.grow hg)
      have HG9 := Lib.hid (join0 HG8.out hg)
      have HX9 := Lib.hid (HX8.out.grow hg)
      have HQ9 := Lib.hid (HQ8.out.grow hg)
      clear hg ho
      go_wp2_with fail
      refine (lawRefs_any A9 n' c9 (norms m) w9 HO9.out.cels (by omega)).mono ?_
      rintro e w10 ⟨A10, c10, rfl, ho, hg⟩
      rw [norms_length, HL'.out] at ho
      rw [norms_length, HL'.out]
      have HO10 := Lib.hid ho
      have HX10' := Lib.hid (HX9'.out.grow hg)
      have HG10 := Lib.hid (join0 HG9.out hg)
      have HX10 := Lib.hid (HX9.out.grow hg)
      clear hg ho
      go_wp2_with fail
      refine (ref3Same_any A10 A' n' n' c10 c' (norms m) m w10 HO10.out.cels HX10'.out (by omega) (by omega)).mono ?_
      rw [HNN'.out]
      rintro e w11 ⟨rfl, hg⟩
      have HG11 := Lib.hid (join0 HG10.out hg)
      have HX11 := Lib.hid (HX10.out.grow hg)
      clear hg
      go_wp2_with fail
      go_ret
      exact ⟨rfl, HG11.out⟩
theorem bufPlays_walk (A A' A2 : Option Addr) (n n' k c c' c2 : Nat) (l m : List Cel) (ds : List Deed3) (w : World) (h : Cels w w.heap.size A n l) (h' : Cels w w.heap.size A' n' m) (ha : Acts3 w w.heap.size A2 k ds) (hA : A = none → c = 0) (hA' : A' = none → c' = 0)
    (hn : n ≤ 9223372036854775807) (hn' : n' ≤ 9223372036854775807) (hk : k ≤ 9223372036854775807) :
    Calls Try.prog 3 #[.slice A n c, .slice A' n' c', .slice A2 k c2] w fun e w' => e = .returned (.bool true) ∧ Below w.heap.size w w' := by
  by_cases h0 : 200 < n ∨ 200 < n' ∨ 60 < k
  · exact (plays3_many A A' A2 n n' k c c' c2 w h0 hn hn' hk).mono fun e w' ⟨h1, h2⟩ => ⟨h1, below_of_grown h2⟩
  · exact (plays3_few A A' A2 n n' k c c' c2 l m ds w h h' hA hA' ha (by omega) (by omega) (by omega)).mono fun e w' ⟨h1, h2⟩ => ⟨h1, below_of_grown h2⟩
end Go.Proofs.Ytabkgdichlebmaa
