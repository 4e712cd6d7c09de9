/-
  THE WALK OF BitsPlays: truths are set, filled and told call by call.
-/
import Derived.Test.YtfnnnbpceeeecaaDoorKnows2
namespace Go.Proofs.YtfnnnbpceeeecaaDoor
open Go.ChangeShapes Go.WideShapes Go.ChangeAt Go.RowKit
set_option linter.unusedVariables false

structure Deed where
  kind : Int
  a : Int
  z : Int
  b : Bool
def noDeed : Deed := ⟨0, 0, 0, false⟩
def Acts (w : World) (B : Nat) (A : Option Addr) (k : Nat) (ds : List Deed) : Prop :=
  ds.length = k ∧ (∀ i, I64 (ds.getD i noDeed).a ∧ I64 (ds.getD i noDeed).z) ∧
  (0 < k → ∃ b off, A = some ⟨b, off, none⟩ ∧ b < B ∧ ∀ i, i < k → w.cell? ⟨b, off + i * 4, none⟩ = some (.int .i64 (ds.getD i noDeed).kind) ∧ w.cell? ⟨b, off + i * 4 + 1, none⟩ = some (.int .i64 (ds.getD i noDeed).a) ∧
    w.cell? ⟨b, off + i * 4 + 2, none⟩ = some (.int .i64 (ds.getD i noDeed).z) ∧ w.cell? ⟨b, off + i * 4 + 3, none⟩ = some (.bool (ds.getD i noDeed).b))
theorem Acts.keep {w w' : World} {B : Nat} {A : Option Addr} {k : Nat} {ds : List Deed} (h : Acts w B A k ds) (hb : Below B w w') : Acts w' B A k ds :=
  ⟨h.1, h.2.1, fun h0 => by
    obtain ⟨b, off, e, hlt, hc⟩ := h.2.2 h0
    exact ⟨b, off, e, hlt, fun i hi => ⟨(hb.cell (p := ⟨b, off + i * 4, none⟩) hlt).trans (hc i hi).1, (hb.cell (p := ⟨b, off + i * 4 + 1, none⟩) hlt).trans (hc i hi).2.1,
      (hb.cell (p := ⟨b, off + i * 4 + 2, none⟩) hlt).trans (hc i hi).2.2.1, (hb.cell (p := ⟨b, off + i * 4 + 3, none⟩) hlt).trans (hc i hi).2.2.2⟩⟩⟩
theorem own_own_apart {w : World} {b b' : Nat} {e e' : TypeId} {s s' n n' : Nat} {v v' : Value} {xs xs' : List Value} (h : w.ownsRow b e s v n xs) (h' : w.ownsRow b' e' s' v' n' xs') (hne : e ≠ e') : v.ownBlock = none ∨ v.ownBlock ≠ v'.ownBlock := by
  rcases h.2 with ⟨rfl, _⟩ | ⟨k, _, cur, rfl, _, hk, _⟩
  · exact .inl rfl
  · exact .inr (Ne.symm (own_apart (g := k) (t := e) (cs := cur) h' hk (Ne.symm hne)))
theorem next_is (l : List Bool) (f : Nat) (b : Bool) : ∃ r, IsNext l f b r := by
  obtain ⟨d, hd⟩ : ∃ d, d = l.length - f := ⟨_, rfl⟩
  induction d generalizing f with
  | zero => exact ⟨l.length, Nat.le_refl _, fun i h1 h2 => by omega, fun h => absurd h (by omega)⟩
  | succ d ih =>
    by_cases hb : l.getD f false = b
    · exact ⟨f, by omega, fun i h1 h2 => by omega, fun _ => ⟨Nat.le_refl _, hb⟩⟩
    · obtain ⟨r, h1, h2, h3⟩ := ih (f + 1) (by omega)
      refine ⟨r, h1, fun i hi1 hi2 => ?_, fun h => ⟨by have := (h3 h).1; omega, (h3 h).2⟩⟩
      by_cases hi : i = f
      · subst hi
        revert hb
        cases l.getD i false <;> cases b <;> simp
      · exact h2 i (by omega) hi2
theorem next_val {l : List Bool} {f r : Nat} {b : Bool} (hr : IsNext l f b r) {w w' : World} {e : Ending} (h : NextEnd l f b w e w') : e = .returned (.int .i64 (r : Int)) ∧ ∃ m, w' = w.drewN m := by
  obtain ⟨r', hr', he, hm⟩ := h
  rw [hr.one hr']
  exact ⟨he, hm⟩

theorem plays_many (n : Int) (all : Bool) (A : Option Addr) (k c : Nat) (w : World) (hT : Tab w) (h : 1000 < n ∨ 100 < k) (hk : k ≤ 9223372036854775807) :
    Calls Tryd.prog 3 #[.int .i64 n, .bool all, .slice A k c] w fun e w' => e = .returned (.bool true) ∧ w.grownBy w' none := by
  have HK := Lib.hid (knows_any w hT)
  clear hT
  by_cases h1 : 1000 < n
  · clear h
    go_enter Tryd.func3, Tryd.ntmps3
    go_wp2_with fail
    refine HK.out.mono ?_
    rintro e w1 ⟨rfl, hg⟩
    have HG := Lib.hid hg
    clear hg
    go_wp2_with fail
    go_ret
    exact ⟨rfl, HG.out⟩
  · have h2 : 100 < k := by omega
    clear h
    go_enter Tryd.func3, Tryd.ntmps3
    go_wp2_with fail
    refine HK.out.mono ?_
    rintro e w1 ⟨rfl, hg⟩
    have HG := Lib.hid hg
    clear hg
    go_wp2_with fail
    go_ret
    exact ⟨rfl, HG.out⟩
/-- the mask at g has the truths cm, the row at R is f; all of it new behind w1. -/
def Pair (w1 : World) (N g : Nat) (R : Option Addr) (cR : Nat) (cm : List Bool) (f : Nat → Bool) (A : Option Addr) (kk cc : Nat) (W : World) : Prop :=
  Mask W 0 g A kk cc cm ∧ (∀ y, A.map (·.block) = some y → w1.heap.size ≤ y) ∧ OwnB W w1.heap.size R N cR f ∧ cm.length = N ∧ w1.grownBy W none
/-- and the deed's copy lies at p. -/
def St (w1 : World) (N g : Nat) (R : Option Addr) (cR : Nat) (cm : List Bool) (f : Nat → Bool) (p : Nat) (dd : Deed) (A : Option Addr) (kk cc : Nat) (W : World) : Prop :=
  Pair w1 N g R cR cm f A kk cc W ∧ Box W p 29 #[.int .i64 dd.kind, .int .i64 dd.a, .int .i64 dd.z, .bool dd.b]
section
variable {w1 W W' : World} {N g : Nat} {R A : Option Addr} {cR kk cc p : Nat} {cm : List Bool} {f : Nat → Bool} {dd : Deed}
theorem Pair.grow (h : Pair w1 N g R cR cm f A kk cc W) (hg : W.grownBy W' none) : Pair w1 N g R cR cm f A kk cc W' :=
  ⟨h.1.grow hg, h.2.1, h.2.2.1.grow hg (.inl rfl), h.2.2.2.1, grown_join h.2.2.2.2 hg (.inr (by simp))⟩
theorem Pair.copied (h : Pair w1 N g R cR cm f A kk cc W) (dd : Deed) : St w1 N g R cR cm f W.heap.size dd A kk cc (W.alloc (.cells #[.int .i64 dd.kind, .int .i64 dd.a, .int .i64 dd.z, .bool dd.b] 29)) :=
  ⟨h.grow (World.grownBy_alloc _ _ _), Box.fresh _ _ _⟩
theorem map_own (A : Option Addr) (k c : Nat) : (Value.slice A k c).ownBlock = A.map (·.block) := by cases A <;> rfl
/-- the mask has turned. -/
theorem St.filled (h : St w1 N g R cR cm f p dd A kk cc W) {cm' : List Bool} (hm : Mask W' 0 g A kk cc cm') (hl : cm'.length = cm.length) (hg : W.grownBy W' (A.map (·.block))) : St w1 N g R cR cm' f p dd A kk cc W' := by
  have a1 := own_own_apart h.1.2.2.1 h.1.1.2.2.2 (by decide)
  have a2 := own_apart h.1.1.2.2.2 h.2 (by decide)
  rw [map_own] at a2
  refine ⟨⟨hm, h.1.2.1, ?_, hl.trans h.1.2.2.2.1, grown_join h.1.2.2.2.2 hg (.inr h.1.2.1)⟩, h.2.grown hg (fun e => a2 e.symm)⟩
  have h3 : W.ownsRow _ _ _ _ _ _ := h.1.2.2.1
  refine World.ownsRow.kept h3 hg ?_
  rw [map_own] at a1 ⊢
  rw [map_own] at a1
  exact a1
/-- a truth of the row is put. -/
theorem St.put {r : Nat} (h : St w1 N g (some ⟨r, 0, none⟩) cR cm f p dd A kk cc W) (i : Nat) (f' : Nat → Bool) (hf : ∀ j, j < N → j ≠ i → f' j = f j) (u : Bool) (hu : u = f' i) (h0 : 0 < N) : St w1 N g (some ⟨r, 0, none⟩) cR cm f' p dd A kk cc (W.setCell ⟨r, i, none⟩ (.bool u)) := by
  subst hu
  have hg : W.grownBy (W.setCell ⟨r, i, none⟩ (.bool (f' i))) (some r) := grown_put (grown_refl W _) (.inl rfl) _
  have a1 := own_own_apart h.1.1.2.2.2 h.1.2.2.1 (by decide)
  have a2 := own_apart h.1.2.2.1 h.2 (by decide)
  have a3 := own_apart h.1.2.2.1 h.1.1.2.2.1 (by decide)
  rw [map_own] at a1 a2 a3
  rw [map_own] at a1
  obtain ⟨r', e, hb, _⟩ := own_form h.1.2.2.1 h0
  obtain rfl : r = r' := by injection e with e; injection e
  refine ⟨⟨h.1.1.grown hg (fun e => a3 e) a1, h.1.2.1, h.1.2.2.1.put f' hf, h.1.2.2.2.1, grown_join h.1.2.2.2.2 hg (.inr fun y hy => by injection hy with hy; omega)⟩, h.2.grown hg (fun e => a2 e.symm)⟩
/-- the mask is another one. -/
theorem St.cloned (h : St w1 N g R cR cm f p dd A kk cc W) {g2 : Nat} {A2 : Option Addr} {k2 c2 : Nat} (hm : Mask W' W.heap.size g2 A2 k2 c2 cm) (hg : W.grownBy W' none) : St w1 N g2 R cR cm f p dd A2 k2 c2 W' := by
  refine ⟨⟨hm.lower (Nat.zero_le _), fun y hy => ?_, h.1.2.2.1.grow hg (.inl rfl), h.1.2.2.2.1, grown_join h.1.2.2.2.2 hg (.inr (by simp))⟩, h.2.grown hg (by simp)⟩
  have := (hm.2.2.2.lt y (by rw [map_own]; exact hy)).1
  have := h.1.2.2.2.2.size
  omega
theorem St.congr (h : St w1 N g R cR cm f p dd A kk cc W) (f' : Nat → Bool) (hf : ∀ j, j < N → f' j = f j) : St w1 N g R cR cm f' p dd A kk cc W :=
  ⟨⟨h.1.1, h.1.2.1, h.1.2.2.1.congr f' hf, h.1.2.2.2⟩, h.2⟩
/-- where both tell the same. -/
theorem Pair.bools (h : Pair w1 N g R cR cm (fun j => cm.getD j false) A kk cc W) : Bools W W.heap.size R N cm := by
  have := h.2.2.1.bools
  rw [← h.2.2.2.1, tab_self, h.2.2.2.1] at this
  exact this
def Facts (w1 : World) (N g : Nat) (R : Option Addr) (cR : Nat) (cm : List Bool) (p : Nat) (dd : Deed) (nx : Nat) (W : World) : Prop :=
  W.cell? ⟨p, 1, none⟩ = some (.int .i64 dd.a) ∧ W.cell? ⟨p, 3, none⟩ = some (.bool dd.b) ∧
  (∀ m, Calls Tryd.prog 13 #[.pointer (some ⟨g, 0, none⟩)] (W.drewN m) fun e w' => e = .returned (.int .i64 ((cnt cm : Nat) : Int)) ∧ w' = W.drewN m) ∧
  (∀ m, Calls Tryd.prog 14 #[.slice R N cR] (W.drewN m) fun e w' => e = .returned (.int .i64 ((cnt cm : Nat) : Int)) ∧ w' = W.drewN m) ∧
  (∀ m, Calls Tryd.prog 15 #[.pointer (some ⟨g, 0, none⟩), .int .i64 dd.a, .bool dd.b] (W.drewN m) fun e w' => e = .returned (.int .i64 (nx : Int)) ∧ ∃ m', w' = (W.drewN m).drewN m') ∧
  (∀ m, Calls Tryd.prog 16 #[.slice R N cR, .int .i64 dd.a, .bool dd.b] (W.drewN m) fun e w' => e = .returned (.int .i64 (nx : Int)) ∧ ∃ m', w' = (W.drewN m).drewN m')
theorem St.facts (h : St w1 N g R cR cm (fun j => cm.getD j false) p dd A kk cc W) (hT : Tab w1) (hN : N ≤ 2097152) (ha : I64 dd.a) : ∃ nx, Facts w1 N g R cR cm p dd nx W := by
  obtain ⟨nx, hnx⟩ := next_is cm dd.a.toNat dd.b
  have hb := h.1.bools
  have hTW : Tab W := hT.grown h.1.2.2.2.2 (by simp)
  refine ⟨nx, by rw [h.2.get]; rfl, by rw [h.2.get]; rfl, fun m => count_any _ cm 0 _ (h.1.1.drewN m).p, fun m => refCount_any R N cR cm _ _ (hb.drewN m) hN, fun m => ?_, fun m => ?_⟩
  · exact (next_any _ cm dd.a dd.b ha 0 _ (h.1.1.drewN m).p (show Tab (W.drewN m) from hTW)).mono fun e w' hh => next_val hnx hh
  · exact (refNext_any R N cR cm dd.a dd.b ha _ _ (hb.drewN m) hN).mono fun e w' hh => next_val hnx hh
end
theorem setE_get (l : List Bool) (i : Nat) (b : Bool) (hi : i < l.length) (j : Nat) : (setE l i b).getD j false = if j = i then b else l.getD j false := by
  unfold setE
  rw [show hasB l (i : Int) = true by unfold hasB; simp; omega, if_pos rfl, fillL_get _ _ _ _ _ (by simp; omega)]
  by_cases h : j = i
  · rw [if_pos (by simp; omega), if_pos h]
  · rw [if_neg (by simp; omega), if_neg h]
theorem setE_out (l : List Bool) (i : Int) (b : Bool) (h : hasB l i = false) : setE l i b = l := by unfold setE; rw [h, if_neg (by simp)]
theorem setE_length (l : List Bool) (i : Int) (b : Bool) : (setE l i b).length = l.length := by
  unfold setE; split
  · exact fillL_length _ _ _ _
  · rfl
theorem fillE_length (l : List Bool) (f t : Int) (b : Bool) : (fillE l f t b).length = l.length := by
  unfold fillE; split
  · exact fillL_length _ _ _ _
  · rfl
theorem fillE_out (l : List Bool) (f t : Int) (b : Bool) (h : fillB l f t = false) : fillE l f t b = l := by unfold fillE; rw [h, if_neg (by simp)]
set_option maxRecDepth 100000 in
set_option maxHeartbeats 8000000 in
theorem plays_few (n : Int) (all : Bool) (A : Option Addr) (k c : Nat) (ds : List Deed) (hx : I64 n) (w : World) (hT : Tab w) (h : Acts w w.heap.size A k ds) (hn : n ≤ 1000) (hk : k ≤ 100) :
    Calls Tryd.prog 3 #[.int .i64 n, .bool all, .slice A k c] w fun e w' => e = .returned (.bool true) ∧ w.grownBy w' none := by
  have HK := Lib.hid (knows_any w hT)
  have HT := Lib.hid hT
  have H := Lib.hid h
  have HX := Lib.hid hx
  clear hT h hx
  go_enter Tryd.func3, Tryd.ntmps3
  go_wp2_with fail
  refine HK.out.mono ?_
  rintro e w1 ⟨rfl, hg⟩
  have HG1 := Lib.hid hg
  have HT1 := Lib.hid (HT.out.grown hg (by simp))
  clear hg
  go_wp2_with fail
  refine (new_any n all HX.out w1).mono ?_
  rintro e w2 ⟨g, B, kb, cb, rfl, hm, hg⟩
  have HM2 := Lib.hid hm
  have HG2 := Lib.hid hg
  clear hm hg
  go_wp2_with fail
  refine (refNew_any n all HX.out (by omega) w2).mono ?_
  rintro e w3 ⟨R, cR, rfl, ho, hg⟩
  have HI : Hid (Pair w1 (cutN n) g R cR (allL (cutN n) all) (fun j => (allL (cutN n) all).getD j false) B kb cb w3) := by
    refine Lib.hid ⟨(HM2.out.grow hg).lower (Nat.zero_le _), fun y hy => (HM2.out.2.2.2.lt y (by rw [map_own]; exact hy)).1, ?_, by simp [allL], grown_join HG2.out hg (.inr (by simp))⟩
    refine (ho.lower HG2.out.size).congr _ fun i hi => ?_
    simp [allL, List.getD, hi]
  have hN : cutN n ≤ 1000 := by unfold cutN; omega
  clear ho hg
  generalize hcn : cutN n = N at *
  clear hcn
  go_wp2_with fail
  go_loopw [7, 9] (fun v7 i wr => ∃ (x g' : Nat) (cur : List Bool) (B' : Option Addr) (kb' cb' : Nat), x ≤ k ∧ i = .int .i64 x ∧ v7 = .pointer (some ⟨g', 0, none⟩) ∧ Pair w1 N g' R cR cur (fun j => cur.getD j false) B' kb' cb' wr) (fun _ i _ => k - (intOf i).toNat)
  case atStart => exact ⟨0, g, _, _, _, _, by omega, rfl, rfl, HI.out⟩
  case round =>
    clear HI HM2 HG2
    obtain ⟨x, g', cur, B', kb', cb', hx, rfl, rfl, hpr⟩ := hrel
    have HPR := Lib.hid hpr
    clear hpr
    by_cases hlt : x < k
    · obtain ⟨b, off, rfl, hb, hcells⟩ := (H.out.keep (below_of_grown (grown_join HG1.out HPR.out.2.2.2.2 (.inr (by simp))))).2.2 (by omega)
      obtain ⟨c0, c1, c2, c3⟩ := hcells x hlt
      obtain ⟨ia, iz⟩ := H.out.2.1 x
      clear hcells
      generalize ds.getD x noDeed = dd at *
      obtain ⟨kind, a, z, t⟩ := dd
      simp only at c0 c1 c2 c3 ia iz
      have HIA := Lib.hid ia
      have HIZ := Lib.hid iz
      have HLN := Lib.hid HPR.out.2.2.2.1
      clear ia iz
      have HS := Lib.hid (HPR.out.copied ⟨kind, a, z, t⟩)
      by_cases hk0 : kind = 0
      · subst hk0
        by_cases ha0 : a < 0
        · have HH := Lib.hid (show hasB cur a = false from decide_eq_false (by omega))
          go_wp2_with fail
          refine (set_no _ cur a t 0 _ HS.out.1.1.p HH.out).mono ?_
          rintro e w5 ⟨rfl, hww⟩
          subst hww
          have HS2 := HS
          obtain ⟨nx, hfx⟩ := HS2.out.facts HT1.out (by omega) HIA.out
          have HFX := Lib.hid hfx
          have hp1 := hfx.1
          have hp3 := hfx.2.1
          clear hfx
          go_wp2
          go_quiet ((first
            | (go_at_call 13; exact Calls.quiet_of_same (HFX.out.2.2.1 _))
            | (go_at_call 14; exact Calls.quiet_of_same (HFX.out.2.2.2.1 _))
            | (go_at_call 15; exact Calls.quiet_of (HFX.out.2.2.2.2.1 _))
            | (go_at_call 16; exact Calls.quiet_of (HFX.out.2.2.2.2.2 _))))
          go_wp2
          go_roundw
          case rel => exact ⟨x + 1, _, _, _, _, _, by omega, by go_num, rfl, HS2.out.1.grow (grown_drewN (grown_refl _ _) _)⟩
          case measure => simp [intOf]; omega
        · by_cases haN : (N : Int) ≤ a
          · have HH := Lib.hid (show hasB cur a = false from decide_eq_false (by have := HLN.out; omega))
            go_wp2_with fail
            refine (set_no _ cur a t 0 _ HS.out.1.1.p HH.out).mono ?_
            rintro e w5 ⟨rfl, hww⟩
            subst hww
            have HS2 := HS
            obtain ⟨nx, hfx⟩ := HS2.out.facts HT1.out (by omega) HIA.out
            have HFX := Lib.hid hfx
            have hp1 := hfx.1
            have hp3 := hfx.2.1
            clear hfx
            go_wp2
            go_quiet ((first
              | (go_at_call 13; exact Calls.quiet_of_same (HFX.out.2.2.1 _))
              | (go_at_call 14; exact Calls.quiet_of_same (HFX.out.2.2.2.1 _))
              | (go_at_call 15; exact Calls.quiet_of (HFX.out.2.2.2.2.1 _))
              | (go_at_call 16; exact Calls.quiet_of (HFX.out.2.2.2.2.2 _))))
            go_wp2
            go_roundw
            case rel => exact ⟨x + 1, _, _, _, _, _, by omega, by go_num, rfl, HS2.out.1.grow (grown_drewN (grown_refl _ _) _)⟩
            case measure => simp [intOf]; omega
          · obtain ⟨ai, rfl⟩ : ∃ ai : Nat, a = ai := ⟨a.toNat, by omega⟩
            have HH := Lib.hid (show hasB cur (ai : Int) = true from decide_eq_true (by have := HLN.out; omega))
            have hdc : decide (ai < N) = true := decide_eq_true (by omega)
            go_wp2_with fail
            refine (set_all g' B' kb' cb' cur ai t 0 _ HS.out.1.1).mono ?_
            rintro e w5 ⟨rfl, hm, hg⟩
            rw [HH.out]
            have HS1 := Lib.hid (HS.out.filled hm (setE_length _ _ _) hg)
            clear hm hg
            obtain ⟨r, rfl, _, _, hrc, hrf⟩ := HS1.out.1.2.2.1.at_ (j := ai) (by omega)
            have hp1 : w5.cell? ⟨wr.heap.size, 1, none⟩ = some (.int .i64 (ai : Int)) := by rw [HS1.out.2.get]; rfl
            have hp3 : w5.cell? ⟨wr.heap.size, 3, none⟩ = some (.bool t) := by rw [HS1.out.2.get]; rfl
            have HS2 := Lib.hid (HS1.out.put ai (fun j => (setE cur ai t).getD j false) (fun j hj hne => by rw [setE_get _ _ _ (by have := HLN.out; omega), if_neg hne]) t (by rw [setE_get _ _ _ (by have := HLN.out; omega), if_pos rfl]) (by omega))
            obtain ⟨nx, hfx⟩ := HS2.out.facts HT1.out (by omega) HIA.out
            have HFX := Lib.hid hfx
            have hq1 := hfx.1
            have hq3 := hfx.2.1
            clear hfx
            go_wp2
            go_quiet ((first
              | (go_at_call 13; exact Calls.quiet_of_same (HFX.out.2.2.1 _))
              | (go_at_call 14; exact Calls.quiet_of_same (HFX.out.2.2.2.1 _))
              | (go_at_call 15; exact Calls.quiet_of (HFX.out.2.2.2.2.1 _))
              | (go_at_call 16; exact Calls.quiet_of (HFX.out.2.2.2.2.2 _))))
            go_wp2
            go_roundw
            case rel => exact ⟨x + 1, _, _, _, _, _, by omega, by go_num, rfl, HS2.out.1.grow (grown_drewN (grown_refl _ _) _)⟩
            case measure => simp [intOf]; omega
      · by_cases hk1 : kind = 1
        · subst hk1
          clear hk0
          by_cases ha0 : a < 0
          · have HH := Lib.hid (show hasB cur a = false from decide_eq_false (by omega))
            go_wp2_with fail
            refine (set_no _ cur a t 0 _ HS.out.1.1.p HH.out).mono ?_
            rintro e w5 ⟨rfl, hww⟩
            subst hww
            have HS2 := HS
            obtain ⟨nx, hfx⟩ := HS2.out.facts HT1.out (by omega) HIA.out
            have HFX := Lib.hid hfx
            have hp1 := hfx.1
            have hp3 := hfx.2.1
            clear hfx
            go_wp2
            go_quiet ((first
              | (go_at_call 13; exact Calls.quiet_of_same (HFX.out.2.2.1 _))
              | (go_at_call 14; exact Calls.quiet_of_same (HFX.out.2.2.2.1 _))
              | (go_at_call 15; exact Calls.quiet_of (HFX.out.2.2.2.2.1 _))
              | (go_at_call 16; exact Calls.quiet_of (HFX.out.2.2.2.2.2 _))))
            go_wp2
            go_roundw
            case rel => exact ⟨x + 1, _, _, _, _, _, by omega, by go_num, rfl, HS2.out.1.grow (grown_drewN (grown_refl _ _) _)⟩
            case measure => simp [intOf]; omega
          · by_cases haN : (N : Int) ≤ a
            · have HH := Lib.hid (show hasB cur a = false from decide_eq_false (by have := HLN.out; omega))
              go_wp2_with fail
              refine (set_no _ cur a t 0 _ HS.out.1.1.p HH.out).mono ?_
              rintro e w5 ⟨rfl, hww⟩
              subst hww
              have HS2 := HS
              obtain ⟨nx, hfx⟩ := HS2.out.facts HT1.out (by omega) HIA.out
              have HFX := Lib.hid hfx
              have hp1 := hfx.1
              have hp3 := hfx.2.1
              clear hfx
              go_wp2
              go_quiet ((first
                | (go_at_call 13; exact Calls.quiet_of_same (HFX.out.2.2.1 _))
                | (go_at_call 14; exact Calls.quiet_of_same (HFX.out.2.2.2.1 _))
                | (go_at_call 15; exact Calls.quiet_of (HFX.out.2.2.2.2.1 _))
                | (go_at_call 16; exact Calls.quiet_of (HFX.out.2.2.2.2.2 _))))
              go_wp2
              go_roundw
              case rel => exact ⟨x + 1, _, _, _, _, _, by omega, by go_num, rfl, HS2.out.1.grow (grown_drewN (grown_refl _ _) _)⟩
              case measure => simp [intOf]; omega
            · obtain ⟨ai, rfl⟩ : ∃ ai : Nat, a = ai := ⟨a.toNat, by omega⟩
              have HH := Lib.hid (show hasB cur (ai : Int) = true from decide_eq_true (by have := HLN.out; omega))
              have hdc : decide (ai < N) = true := decide_eq_true (by omega)
              go_wp2_with fail
              refine (set_all g' B' kb' cb' cur ai t 0 _ HS.out.1.1).mono ?_
              rintro e w5 ⟨rfl, hm, hg⟩
              rw [HH.out]
              have HS1 := Lib.hid (HS.out.filled hm (setE_length _ _ _) hg)
              clear hm hg
              obtain ⟨r, rfl, _, _, hrc, hrf⟩ := HS1.out.1.2.2.1.at_ (j := ai) (by omega)
              have hp1 : w5.cell? ⟨wr.heap.size, 1, none⟩ = some (.int .i64 (ai : Int)) := by rw [HS1.out.2.get]; rfl
              have hp3 : w5.cell? ⟨wr.heap.size, 3, none⟩ = some (.bool t) := by rw [HS1.out.2.get]; rfl
              have HS2 := Lib.hid (HS1.out.put ai (fun j => (setE cur ai t).getD j false) (fun j hj hne => by rw [setE_get _ _ _ (by have := HLN.out; omega), if_neg hne]) t (by rw [setE_get _ _ _ (by have := HLN.out; omega), if_pos rfl]) (by omega))
              obtain ⟨nx, hfx⟩ := HS2.out.facts HT1.out (by omega) HIA.out
              have HFX := Lib.hid hfx
              have hq1 := hfx.1
              have hq3 := hfx.2.1
              clear hfx
              go_wp2
              go_quiet ((first
                | (go_at_call 13; exact Calls.quiet_of_same (HFX.out.2.2.1 _))
                | (go_at_call 14; exact Calls.quiet_of_same (HFX.out.2.2.2.1 _))
                | (go_at_call 15; exact Calls.quiet_of (HFX.out.2.2.2.2.1 _))
                | (go_at_call 16; exact Calls.quiet_of (HFX.out.2.2.2.2.2 _))))
              go_wp2
              go_roundw
              case rel => exact ⟨x + 1, _, _, _, _, _, by omega, by go_num, rfl, HS2.out.1.grow (grown_drewN (grown_refl _ _) _)⟩
              case measure => simp [intOf]; omega
        · by_cases hk2 : kind = 2
          · subst hk2
            clear hk0 hk1
            by_cases ha0 : a < 0
            · have HH := Lib.hid (show ¬ (0 ≤ a ∧ a ≤ z ∧ z ≤ cur.length) by omega)
              have hd1 : decide (0 ≤ a) = false := decide_eq_false (by omega)
              go_wp2_with fail
              refine (fill_bad _ cur a z t 0 _ HS.out.1.1.p HH.out).mono ?_
              rintro e w5 ⟨rfl, hww⟩
              subst hww
              have HS2 := HS
              go_wp2_with fail
              go_loopw [13] (fun v w6 => v = .int .i64 a ∧ w6 = wr.alloc (.cells #[.int .i64 2, .int .i64 a, .int .i64 z, .bool t] 29)) (fun _ _ => 0)
              case atStart => exact ⟨rfl, rfl⟩
              case round =>
                obtain ⟨rfl, rfl⟩ := hrel
                obtain ⟨nx, hfx⟩ := HS2.out.facts HT1.out (by omega) HIA.out
                have HFX := Lib.hid hfx
                have hp1 := hfx.1
                have hp3 := hfx.2.1
                clear hfx
                go_wp2
                go_quiet ((first
                  | (go_at_call 13; exact Calls.quiet_of_same (HFX.out.2.2.1 _))
                  | (go_at_call 14; exact Calls.quiet_of_same (HFX.out.2.2.2.1 _))
                  | (go_at_call 15; exact Calls.quiet_of (HFX.out.2.2.2.2.1 _))
                  | (go_at_call 16; exact Calls.quiet_of (HFX.out.2.2.2.2.2 _))))
                go_wp2
                go_roundw
                case rel => exact ⟨x + 1, _, _, _, _, _, by omega, by go_num, rfl, HS2.out.1.grow (grown_drewN (grown_refl _ _) _)⟩
                case measure => simp [intOf]; omega
            · have hd1 : decide (0 ≤ a) = true := decide_eq_true (by omega)
              by_cases haz : z < a
              · have HH := Lib.hid (show ¬ (0 ≤ a ∧ a ≤ z ∧ z ≤ cur.length) by omega)
                have hd2 : decide (a ≤ z) = false := decide_eq_false (by omega)
                go_wp2_with fail
                refine (fill_bad _ cur a z t 0 _ HS.out.1.1.p HH.out).mono ?_
                rintro e w5 ⟨rfl, hww⟩
                subst hww
                have HS2 := HS
                go_wp2_with fail
                go_loopw [13] (fun v w6 => v = .int .i64 a ∧ w6 = wr.alloc (.cells #[.int .i64 2, .int .i64 a, .int .i64 z, .bool t] 29)) (fun _ _ => 0)
                case atStart => exact ⟨rfl, rfl⟩
                case round =>
                  obtain ⟨rfl, rfl⟩ := hrel
                  obtain ⟨nx, hfx⟩ := HS2.out.facts HT1.out (by omega) HIA.out
                  have HFX := Lib.hid hfx
                  have hp1 := hfx.1
                  have hp3 := hfx.2.1
                  clear hfx
                  go_wp2
                  go_quiet ((first
                    | (go_at_call 13; exact Calls.quiet_of_same (HFX.out.2.2.1 _))
                    | (go_at_call 14; exact Calls.quiet_of_same (HFX.out.2.2.2.1 _))
                    | (go_at_call 15; exact Calls.quiet_of (HFX.out.2.2.2.2.1 _))
                    | (go_at_call 16; exact Calls.quiet_of (HFX.out.2.2.2.2.2 _))))
                  go_wp2
                  go_roundw
                  case rel => exact ⟨x + 1, _, _, _, _, _, by omega, by go_num, rfl, HS2.out.1.grow (grown_drewN (grown_refl _ _) _)⟩
                  case measure => simp [intOf]; omega
              · have hd2 : decide (a ≤ z) = true := decide_eq_true (by omega)
                by_cases hzN : (N : Int) < z
                · have HH := Lib.hid (show ¬ (0 ≤ a ∧ a ≤ z ∧ z ≤ cur.length) by have := HLN.out; omega)
                  have hd3 : decide (z ≤ (N : Int)) = false := decide_eq_false (by omega)
                  go_wp2_with fail
                  refine (fill_bad _ cur a z t 0 _ HS.out.1.1.p HH.out).mono ?_
                  rintro e w5 ⟨rfl, hww⟩
                  subst hww
                  have HS2 := HS
                  go_wp2_with fail
                  go_loopw [13] (fun v w6 => v = .int .i64 a ∧ w6 = wr.alloc (.cells #[.int .i64 2, .int .i64 a, .int .i64 z, .bool t] 29)) (fun _ _ => 0)
                  case atStart => exact ⟨rfl, rfl⟩
                  case round =>
                    obtain ⟨rfl, rfl⟩ := hrel
                    obtain ⟨nx, hfx⟩ := HS2.out.facts HT1.out (by omega) HIA.out
                    have HFX := Lib.hid hfx
                    have hp1 := hfx.1
                    have hp3 := hfx.2.1
                    clear hfx
                    go_wp2
                    go_quiet ((first
                      | (go_at_call 13; exact Calls.quiet_of_same (HFX.out.2.2.1 _))
                      | (go_at_call 14; exact Calls.quiet_of_same (HFX.out.2.2.2.1 _))
                      | (go_at_call 15; exact Calls.quiet_of (HFX.out.2.2.2.2.1 _))
                      | (go_at_call 16; exact Calls.quiet_of (HFX.out.2.2.2.2.2 _))))
                    go_wp2
                    go_roundw
                    case rel => exact ⟨x + 1, _, _, _, _, _, by omega, by go_num, rfl, HS2.out.1.grow (grown_drewN (grown_refl _ _) _)⟩
                    case measure => simp [intOf]; omega
                · obtain ⟨ai, rfl⟩ : ∃ ai : Nat, a = ai := ⟨a.toNat, by omega⟩
                  obtain ⟨zi, rfl⟩ : ∃ zi : Nat, z = zi := ⟨z.toNat, by omega⟩
                  have HH := Lib.hid (show fillB cur ai zi = true from decide_eq_true (by have := HLN.out; omega))
                  have hd4 : decide (ai ≤ zi) = true := decide_eq_true (by omega)
                  have hd5 : decide (zi ≤ N) = true := decide_eq_true (by omega)
                  clear hd1 hd2
                  go_wp2_with fail
                  refine (fill_all g' B' kb' cb' cur ai zi t 0 _ HS.out.1.1).mono ?_
                  rintro e w5 ⟨rfl, hm, hg⟩
                  rw [HH.out]
                  have HS1 := Lib.hid (HS.out.filled hm (fillE_length _ _ _ _) hg)
                  clear hm hg
                  have hp1 : w5.cell? ⟨wr.heap.size, 1, none⟩ = some (.int .i64 (ai : Int)) := by rw [HS1.out.2.get]; rfl
                  generalize hpp : wr.heap.size = p at *
                  clear hpp
                  go_wp2_with fail
                  clear hp1
                  go_loopw [13] (fun v w6 => ∃ y : Nat, ai ≤ y ∧ y ≤ zi ∧ v = .int .i64 y ∧ St w1 N g' R cR (fillE cur ai zi t) (fun j => if ai ≤ j ∧ j < y then t else cur.getD j false) p ⟨2, ai, zi, t⟩ B' kb' cb' w6) (fun v _ => zi - (intOf v).toNat)
                  case atStart => exact ⟨ai, by omega, by omega, rfl, HS1.out.congr _ (fun j _ => by rw [if_neg (by omega)])⟩
                  case round =>
                    obtain ⟨y, hy1, hy2, rfl, hst⟩ := hrel
                    have hz2 : wr.cell? ⟨p, 2, none⟩ = some (.int .i64 (zi : Int)) := by rw [hst.2.get]; rfl
                    by_cases hyz : y < zi
                    · have hz3 : wr.cell? ⟨p, 3, none⟩ = some (.bool t) := by rw [hst.2.get]; rfl
                      obtain ⟨r, rfl, _, _, hrc, hrf⟩ := hst.1.2.2.1.at_ (j := y) (by omega)
                      have HST := Lib.hid hst
                      clear hst
                      go_wp2_with fail
                      go_roundw
                      case rel => exact ⟨y + 1, by omega, by omega, by go_num, HST.out.put y (fun j => if ai ≤ j ∧ j < y + 1 then t else cur.getD j false) (fun j _ hne => by
                        by_cases h : ai ≤ j ∧ j < y
                        · rw [if_pos h, if_pos (by omega)]
                        · rw [if_neg h, if_neg (by omega)]) t (by rw [if_pos (by omega)]) (by omega)⟩
                      case measure => simp [intOf]; omega
                    · obtain rfl : y = zi := by omega
                      have HS2 := Lib.hid (hst.congr (fun j => (fillE cur ai y t).getD j false) (fun j hj => by
                        unfold fillE
                        rw [HH.out, if_pos rfl, fillL_get _ _ _ _ _ (by have := HLN.out; simp; omega)]
                        simp))
                      clear hst
                      obtain ⟨nx, hfx⟩ := HS2.out.facts HT1.out (by omega) HIA.out
                      have HFX := Lib.hid hfx
                      have hp1 := hfx.1
                      have hp3 := hfx.2.1
                      clear hfx
                      go_wp2
                      go_quiet ((first
                        | (go_at_call 13; exact Calls.quiet_of_same (HFX.out.2.2.1 _))
                        | (go_at_call 14; exact Calls.quiet_of_same (HFX.out.2.2.2.1 _))
                        | (go_at_call 15; exact Calls.quiet_of (HFX.out.2.2.2.2.1 _))
                        | (go_at_call 16; exact Calls.quiet_of (HFX.out.2.2.2.2.2 _))))
                      go_wp2
                      go_roundw
                      case rel => exact ⟨x + 1, _, _, _, _, _, by omega, by go_num, rfl, HS2.out.1.grow (grown_drewN (grown_refl _ _) _)⟩
                      case measure => simp [intOf]; omega
          · by_cases hk3 : kind = 3
            · subst hk3
              clear hk0 hk1 hk2
              by_cases ha0 : a < 0
              · have HH := Lib.hid (show ¬ (0 ≤ a ∧ a ≤ z ∧ z ≤ cur.length) by omega)
                have hd1 : decide (0 ≤ a) = false := decide_eq_false (by omega)
                go_wp2_with fail
                refine (fill_bad _ cur a z t 0 _ HS.out.1.1.p HH.out).mono ?_
                rintro e w5 ⟨rfl, hww⟩
                subst hww
                have HS2 := HS
                go_wp2_with fail
                go_loopw [13] (fun v w6 => v = .int .i64 a ∧ w6 = wr.alloc (.cells #[.int .i64 3, .int .i64 a, .int .i64 z, .bool t] 29)) (fun _ _ => 0)
                case atStart => exact ⟨rfl, rfl⟩
                case round =>
                  obtain ⟨rfl, rfl⟩ := hrel
                  obtain ⟨nx, hfx⟩ := HS2.out.facts HT1.out (by omega) HIA.out
                  have HFX := Lib.hid hfx
                  have hp1 := hfx.1
                  have hp3 := hfx.2.1
                  clear hfx
                  go_wp2
                  go_quiet ((first
                    | (go_at_call 13; exact Calls.quiet_of_same (HFX.out.2.2.1 _))
                    | (go_at_call 14; exact Calls.quiet_of_same (HFX.out.2.2.2.1 _))
                    | (go_at_call 15; exact Calls.quiet_of (HFX.out.2.2.2.2.1 _))
                    | (go_at_call 16; exact Calls.quiet_of (HFX.out.2.2.2.2.2 _))))
                  go_wp2
                  go_roundw
                  case rel => exact ⟨x + 1, _, _, _, _, _, by omega, by go_num, rfl, HS2.out.1.grow (grown_drewN (grown_refl _ _) _)⟩
                  case measure => simp [intOf]; omega
              · have hd1 : decide (0 ≤ a) = true := decide_eq_true (by omega)
                by_cases haz : z < a
                · have HH := Lib.hid (show ¬ (0 ≤ a ∧ a ≤ z ∧ z ≤ cur.length) by omega)
                  have hd2 : decide (a ≤ z) = false := decide_eq_false (by omega)
                  go_wp2_with fail
                  refine (fill_bad _ cur a z t 0 _ HS.out.1.1.p HH.out).mono ?_
                  rintro e w5 ⟨rfl, hww⟩
                  subst hww
                  have HS2 := HS
                  go_wp2_with fail
                  go_loopw [13] (fun v w6 => v = .int .i64 a ∧ w6 = wr.alloc (.cells #[.int .i64 3, .int .i64 a, .int .i64 z, .bool t] 29)) (fun _ _ => 0)
                  case atStart => exact ⟨rfl, rfl⟩
                  case round =>
                    obtain ⟨rfl, rfl⟩ := hrel
                    obtain ⟨nx, hfx⟩ := HS2.out.facts HT1.out (by omega) HIA.out
                    have HFX := Lib.hid hfx
                    have hp1 := hfx.1
                    have hp3 := hfx.2.1
                    clear hfx
                    go_wp2
                    go_quiet ((first
                      | (go_at_call 13; exact Calls.quiet_of_same (HFX.out.2.2.1 _))
                      | (go_at_call 14; exact Calls.quiet_of_same (HFX.out.2.2.2.1 _))
                      | (go_at_call 15; exact Calls.quiet_of (HFX.out.2.2.2.2.1 _))
                      | (go_at_call 16; exact Calls.quiet_of (HFX.out.2.2.2.2.2 _))))
                    go_wp2
                    go_roundw
                    case rel => exact ⟨x + 1, _, _, _, _, _, by omega, by go_num, rfl, HS2.out.1.grow (grown_drewN (grown_refl _ _) _)⟩
                    case measure => simp [intOf]; omega
                · have hd2 : decide (a ≤ z) = true := decide_eq_true (by omega)
                  by_cases hzN : (N : Int) < z
                  · have HH := Lib.hid (show ¬ (0 ≤ a ∧ a ≤ z ∧ z ≤ cur.length) by have := HLN.out; omega)
                    have hd3 : decide (z ≤ (N : Int)) = false := decide_eq_false (by omega)
                    go_wp2_with fail
                    refine (fill_bad _ cur a z t 0 _ HS.out.1.1.p HH.out).mono ?_
                    rintro e w5 ⟨rfl, hww⟩
                    subst hww
                    have HS2 := HS
                    go_wp2_with fail
                    go_loopw [13] (fun v w6 => v = .int .i64 a ∧ w6 = wr.alloc (.cells #[.int .i64 3, .int .i64 a, .int .i64 z, .bool t] 29)) (fun _ _ => 0)
                    case atStart => exact ⟨rfl, rfl⟩
                    case round =>
                      obtain ⟨rfl, rfl⟩ := hrel
                      obtain ⟨nx, hfx⟩ := HS2.out.facts HT1.out (by omega) HIA.out
                      have HFX := Lib.hid hfx
                      have hp1 := hfx.1
                      have hp3 := hfx.2.1
                      clear hfx
                      go_wp2
                      go_quiet ((first
                        | (go_at_call 13; exact Calls.quiet_of_same (HFX.out.2.2.1 _))
                        | (go_at_call 14; exact Calls.quiet_of_same (HFX.out.2.2.2.1 _))
                        | (go_at_call 15; exact Calls.quiet_of (HFX.out.2.2.2.2.1 _))
                        | (go_at_call 16; exact Calls.quiet_of (HFX.out.2.2.2.2.2 _))))
                      go_wp2
                      go_roundw
                      case rel => exact ⟨x + 1, _, _, _, _, _, by omega, by go_num, rfl, HS2.out.1.grow (grown_drewN (grown_refl _ _) _)⟩
                      case measure => simp [intOf]; omega
                  · obtain ⟨ai, rfl⟩ : ∃ ai : Nat, a = ai := ⟨a.toNat, by omega⟩
                    obtain ⟨zi, rfl⟩ : ∃ zi : Nat, z = zi := ⟨z.toNat, by omega⟩
                    have HH := Lib.hid (show fillB cur ai zi = true from decide_eq_true (by have := HLN.out; omega))
                    have hd4 : decide (ai ≤ zi) = true := decide_eq_true (by omega)
                    have hd5 : decide (zi ≤ N) = true := decide_eq_true (by omega)
                    clear hd1 hd2
                    go_wp2_with fail
                    refine (fill_all g' B' kb' cb' cur ai zi t 0 _ HS.out.1.1).mono ?_
                    rintro e w5 ⟨rfl, hm, hg⟩
                    rw [HH.out]
                    have HS1 := Lib.hid (HS.out.filled hm (fillE_length _ _ _ _) hg)
                    clear hm hg
                    have hp1 : w5.cell? ⟨wr.heap.size, 1, none⟩ = some (.int .i64 (ai : Int)) := by rw [HS1.out.2.get]; rfl
                    generalize hpp : wr.heap.size = p at *
                    clear hpp
                    go_wp2_with fail
                    clear hp1
                    go_loopw [13] (fun v w6 => ∃ y : Nat, ai ≤ y ∧ y ≤ zi ∧ v = .int .i64 y ∧ St w1 N g' R cR (fillE cur ai zi t) (fun j => if ai ≤ j ∧ j < y then t else cur.getD j false) p ⟨3, ai, zi, t⟩ B' kb' cb' w6) (fun v _ => zi - (intOf v).toNat)
                    case atStart => exact ⟨ai, by omega, by omega, rfl, HS1.out.congr _ (fun j _ => by rw [if_neg (by omega)])⟩
                    case round =>
                      obtain ⟨y, hy1, hy2, rfl, hst⟩ := hrel
                      have hz2 : wr.cell? ⟨p, 2, none⟩ = some (.int .i64 (zi : Int)) := by rw [hst.2.get]; rfl
                      by_cases hyz : y < zi
                      · have hz3 : wr.cell? ⟨p, 3, none⟩ = some (.bool t) := by rw [hst.2.get]; rfl
                        obtain ⟨r, rfl, _, _, hrc, hrf⟩ := hst.1.2.2.1.at_ (j := y) (by omega)
                        have HST := Lib.hid hst
                        clear hst
                        go_wp2_with fail
                        go_roundw
                        case rel => exact ⟨y + 1, by omega, by omega, by go_num, HST.out.put y (fun j => if ai ≤ j ∧ j < y + 1 then t else cur.getD j false) (fun j _ hne => by
                          by_cases h : ai ≤ j ∧ j < y
                          · rw [if_pos h, if_pos (by omega)]
                          · rw [if_neg h, if_neg (by omega)]) t (by rw [if_pos (by omega)]) (by omega)⟩
                        case measure => simp [intOf]; omega
                      · obtain rfl : y = zi := by omega
                        have HS2 := Lib.hid (hst.congr (fun j => (fillE cur ai y t).getD j false) (fun j hj => by
                          unfold fillE
                          rw [HH.out, if_pos rfl, fillL_get _ _ _ _ _ (by have := HLN.out; simp; omega)]
                          simp))
                        clear hst
                        obtain ⟨nx, hfx⟩ := HS2.out.facts HT1.out (by omega) HIA.out
                        have HFX := Lib.hid hfx
                        have hp1 := hfx.1
                        have hp3 := hfx.2.1
                        clear hfx
                        go_wp2
                        go_quiet ((first
                          | (go_at_call 13; exact Calls.quiet_of_same (HFX.out.2.2.1 _))
                          | (go_at_call 14; exact Calls.quiet_of_same (HFX.out.2.2.2.1 _))
                          | (go_at_call 15; exact Calls.quiet_of (HFX.out.2.2.2.2.1 _))
                          | (go_at_call 16; exact Calls.quiet_of (HFX.out.2.2.2.2.2 _))))
                        go_wp2
                        go_roundw
                        case rel => exact ⟨x + 1, _, _, _, _, _, by omega, by go_num, rfl, HS2.out.1.grow (grown_drewN (grown_refl _ _) _)⟩
                        case measure => simp [intOf]; omega
            · by_cases hk4 : kind = 4
              · subst hk4
                clear hk0 hk1 hk2 hk3
                go_wp2_with fail
                refine (clone_any _ cur 0 _ HS.out.1.1.p).mono ?_
                rintro e w5 ⟨g2, B2, k2, c2, rfl, hm, hg⟩
                have HS2 := Lib.hid (HS.out.cloned hm hg)
                clear hm hg
                obtain ⟨nx, hfx⟩ := HS2.out.facts HT1.out (by omega) HIA.out
                have HFX := Lib.hid hfx
                have hp1 := hfx.1
                have hp3 := hfx.2.1
                clear hfx
                go_wp2
                go_quiet ((first
                  | (go_at_call 13; exact Calls.quiet_of_same (HFX.out.2.2.1 _))
                  | (go_at_call 14; exact Calls.quiet_of_same (HFX.out.2.2.2.1 _))
                  | (go_at_call 15; exact Calls.quiet_of (HFX.out.2.2.2.2.1 _))
                  | (go_at_call 16; exact Calls.quiet_of (HFX.out.2.2.2.2.2 _))))
                go_wp2
                go_roundw
                case rel => exact ⟨x + 1, _, _, _, _, _, by omega, by go_num, rfl, HS2.out.1.grow (grown_drewN (grown_refl _ _) _)⟩
                case measure => simp [intOf]; omega
              · have hb0 : (kind == 0) = false := by simp [hk0]
                have hb1 : (kind == 1) = false := by simp [hk1]
                have hb2 : (kind == 2) = false := by simp [hk2]
                have hb3 : (kind == 3) = false := by simp [hk3]
                have hb4 : (kind == 4) = false := by simp [hk4]
                clear hk0 hk1 hk2 hk3 hk4
                have HS2 := HS
                obtain ⟨nx, hfx⟩ := HS2.out.facts HT1.out (by omega) HIA.out
                have HFX := Lib.hid hfx
                have hp1 := hfx.1
                have hp3 := hfx.2.1
                clear hfx
                go_wp2
                go_quiet ((first
                  | (go_at_call 13; exact Calls.quiet_of_same (HFX.out.2.2.1 _))
                  | (go_at_call 14; exact Calls.quiet_of_same (HFX.out.2.2.2.1 _))
                  | (go_at_call 15; exact Calls.quiet_of (HFX.out.2.2.2.2.1 _))
                  | (go_at_call 16; exact Calls.quiet_of (HFX.out.2.2.2.2.2 _))))
                go_wp2
                go_roundw
                case rel => exact ⟨x + 1, _, _, _, _, _, by omega, by go_num, rfl, HS2.out.1.grow (grown_drewN (grown_refl _ _) _)⟩
                case measure => simp [intOf]; omega
    · obtain rfl : x = k := by omega
      go_wp2_with fail
      refine (lawSame_any _ R N cR cur cur 0 _ _ HPR.out.1.p HPR.out.bools (by omega)).mono ?_
      rintro e w5 ⟨rfl, m, hww⟩
      subst hww
      rw [show decide (cur = cur) = true from decide_eq_true rfl]
      go_wp2_with fail
      go_ret
      exact ⟨rfl, grown_drewN (grown_join HG1.out HPR.out.2.2.2.2 (.inr (by simp))) m⟩
theorem bitsPlays_walk (n : Int) (all : Bool) (A : Option Addr) (k c : Nat) (ds : List Deed) (hx : I64 n) (w : World) (hT : Tab w) (h : Acts w w.heap.size A k ds) (hk : k ≤ 9223372036854775807) :
    Calls Tryd.prog 3 #[.int .i64 n, .bool all, .slice A k c] w fun e w' => e = .returned (.bool true) ∧ Below w.heap.size w w' := by
  by_cases h0 : 1000 < n ∨ 100 < k
  · exact (plays_many n all A k c w hT h0 hk).mono fun e w' ⟨h1, h2⟩ => ⟨h1, below_of_grown h2⟩
  · exact (plays_few n all A k c ds hx w hT h (by omega) (by omega)).mono fun e w' ⟨h1, h2⟩ => ⟨h1, below_of_grown h2⟩
end Go.Proofs.YtfnnnbpceeeecaaDoor
