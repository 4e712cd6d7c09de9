/-
  Layer 8: what the walks of the laws share: answers are short; what boxes hold.
-/
import Derived.Test.YtkpfhjjojchdlaaKnows8
import Derived.Deep.RegionHeld3
namespace Go.Proofs.Ytkpfhjjojchdlaa
open Go.ChangeShapes Go.WideShapes Go.ChangeAt Go.RowKit
set_option linter.unusedVariables false
set_option maxRecDepth 100000

def short8 (p : Vw × Bool) : Prop := p.1.sh.length ≤ 6 ∧ p.1.st.length ≤ 6
theorem fine8_short (v : Vw) : short8 (fineV v) := by
  unfold fineV
  by_cases h : rightV v = true
  · rw [if_pos h]
    have := rightV_dims h
    exact ⟨this, by rw [(rightV_all h).2.1]; exact this⟩
  · rw [if_neg h]; exact ⟨by simp [zeroV], by simp [zeroV]⟩
theorem zero8_short : short8 (zeroV, false) := ⟨by simp [zeroV], by simp [zeroV]⟩
theorem light_small {s t : List Int} {o most : Int} (h : lightB ⟨s, t, o⟩ most = true) : s.length ≤ 20 ∧ t.length ≤ 20 := by
  unfold lightB at h
  simp only [Bool.and_eq_true, decide_eq_true_eq] at h
  exact h.1
theorem light_cells {s t : List Int} {o most : Int} (h : lightB ⟨s, t, o⟩ most = true) (hf : full s = true) : cellsV ⟨s, t, o⟩ ≤ most := by
  unfold lightB at h
  simp only [Bool.and_eq_true, decide_eq_true_eq, Bool.or_eq_true, Bool.not_eq_true'] at h
  rcases h.2 with h | h
  · rw [hf] at h; cases h
  · exact h
theorem offs_length (v : Vw) : (offsL v).length = (cellsV v).toNat := by unfold offsL; rw [List.length_map, List.length_range]
theorem offs_small {v : Vw} (h : rightV v = true) : (offsL v).length ≤ 1048576 := by
  rw [offs_length, cells_right h]
  have := (full_all (rightV_all h).1).2
  omega
theorem gaveVQ_tells {p : Vw × Bool} {w w' : World} {e : Ending} (h : GaveVQ p w e w') : GaveVP p w e w' := by
  obtain ⟨A, n, c, A', n', c', rfl, h1, h2, hg⟩ := h
  exact ⟨_, _, _, _, _, _, rfl, h1.numsF, h2.numsF, hg⟩
theorem slice8_short (v : Vw) (i f N p : Int) : short8 (sliceV v i f N p) := by unfold sliceV; split <;> first | exact fine8_short _ | exact zero8_short
theorem flip8_short (v : Vw) (i : Int) : short8 (flipV v i) := by unfold flipV; split <;> first | exact fine8_short _ | exact zero8_short
theorem perm8_short (v : Vw) (q : List Int) : short8 (permV v q) := by unfold permV; split <;> first | exact fine8_short _ | exact zero8_short
theorem drop8_short (v : Vw) (i x : Int) : short8 (dropV v i x) := by unfold dropV; split <;> first | exact fine8_short _ | exact zero8_short
theorem grow8_short (v : Vw) (i x : Int) : short8 (growV v i x) := by unfold growV; split <;> first | exact fine8_short _ | exact zero8_short
theorem window8_short (v : Vw) (i x : Int) : short8 (windowV v i x) := by unfold windowV; split <;> first | exact fine8_short _ | exact zero8_short
theorem shape8_short (v : Vw) (q : List Int) : short8 (shapeV v q) := by unfold shapeV; split <;> first | exact fine8_short _ | exact zero8_short
theorem new8_short (q : List Int) : short8 (newV q) := by unfold newV; split <;> first | exact fine8_short _ | exact zero8_short
theorem box8_drew {w : World} {g : Nat} {t : TypeId} {cs : Array Value} (h : Box w g t cs) : Box w.drew g t cs := h
theorem boxes8_2 {w : World} {g0 g1 : Nat} {T0 T1 : TypeId} {a0 b0 c0 a1 b1 c1 : Value} (h0 : Box w g0 T0 #[a0, b0, c0]) (h1 : Box w g1 T1 #[a1, b1, c1]) : w.cell? ⟨g0, 0, none⟩ = some a0 ∧ w.cell? ⟨g0, 1, none⟩ = some b0 ∧ w.cell? ⟨g0, 2, none⟩ = some c0 ∧ w.cell? ⟨g1, 0, none⟩ = some a1 ∧ w.cell? ⟨g1, 1, none⟩ = some b1 ∧ w.cell? ⟨g1, 2, none⟩ = some c1 := ⟨h0.get 0, h0.get 1, h0.get 2, h1.get 0, h1.get 1, h1.get 2⟩
theorem boxes8_4 {w : World} {g0 g1 g2 g3 : Nat} {T0 T1 T2 T3 : TypeId} {a0 b0 c0 a1 b1 c1 a2 b2 c2 a3 b3 c3 : Value} (h0 : Box w g0 T0 #[a0, b0, c0]) (h1 : Box w g1 T1 #[a1, b1, c1]) (h2 : Box w g2 T2 #[a2, b2, c2]) (h3 : Box w g3 T3 #[a3, b3, c3]) : w.cell? ⟨g0, 0, none⟩ = some a0 ∧ w.cell? ⟨g0, 1, none⟩ = some b0 ∧ w.cell? ⟨g0, 2, none⟩ = some c0 ∧ w.cell? ⟨g1, 0, none⟩ = some a1 ∧ w.cell? ⟨g1, 1, none⟩ = some b1 ∧ w.cell? ⟨g1, 2, none⟩ = some c1 ∧ w.cell? ⟨g2, 0, none⟩ = some a2 ∧ w.cell? ⟨g2, 1, none⟩ = some b2 ∧ w.cell? ⟨g2, 2, none⟩ = some c2 ∧ w.cell? ⟨g3, 0, none⟩ = some a3 ∧ w.cell? ⟨g3, 1, none⟩ = some b3 ∧ w.cell? ⟨g3, 2, none⟩ = some c3 := ⟨h0.get 0, h0.get 1, h0.get 2, h1.get 0, h1.get 1, h1.get 2, h2.get 0, h2.get 1, h2.get 2, h3.get 0, h3.get 1, h3.get 2⟩
theorem boxes8_7 {w : World} {g0 g1 g2 g3 g4 g5 g6 : Nat} {T0 T1 T2 T3 T4 T5 T6 : TypeId} {a0 b0 c0 a1 b1 c1 a2 b2 c2 a3 b3 c3 a4 b4 c4 a5 b5 c5 a6 b6 c6 : Value} (h0 : Box w g0 T0 #[a0, b0, c0]) (h1 : Box w g1 T1 #[a1, b1, c1]) (h2 : Box w g2 T2 #[a2, b2, c2]) (h3 : Box w g3 T3 #[a3, b3, c3]) (h4 : Box w g4 T4 #[a4, b4, c4]) (h5 : Box w g5 T5 #[a5, b5, c5]) (h6 : Box w g6 T6 #[a6, b6, c6]) : w.cell? ⟨g0, 0, none⟩ = some a0 ∧ w.cell? ⟨g0, 1, none⟩ = some b0 ∧ w.cell? ⟨g0, 2, none⟩ = some c0 ∧ w.cell? ⟨g1, 0, none⟩ = some a1 ∧ w.cell? ⟨g1, 1, none⟩ = some b1 ∧ w.cell? ⟨g1, 2, none⟩ = some c1 ∧ w.cell? ⟨g2, 0, none⟩ = some a2 ∧ w.cell? ⟨g2, 1, none⟩ = some b2 ∧ w.cell? ⟨g2, 2, none⟩ = some c2 ∧ w.cell? ⟨g3, 0, none⟩ = some a3 ∧ w.cell? ⟨g3, 1, none⟩ = some b3 ∧ w.cell? ⟨g3, 2, none⟩ = some c3 ∧ w.cell? ⟨g4, 0, none⟩ = some a4 ∧ w.cell? ⟨g4, 1, none⟩ = some b4 ∧ w.cell? ⟨g4, 2, none⟩ = some c4 ∧ w.cell? ⟨g5, 0, none⟩ = some a5 ∧ w.cell? ⟨g5, 1, none⟩ = some b5 ∧ w.cell? ⟨g5, 2, none⟩ = some c5 ∧ w.cell? ⟨g6, 0, none⟩ = some a6 ∧ w.cell? ⟨g6, 1, none⟩ = some b6 ∧ w.cell? ⟨g6, 2, none⟩ = some c6 := ⟨h0.get 0, h0.get 1, h0.get 2, h1.get 0, h1.get 1, h1.get 2, h2.get 0, h2.get 1, h2.get 2, h3.get 0, h3.get 1, h3.get 2, h4.get 0, h4.get 1, h4.get 2, h5.get 0, h5.get 1, h5.get 2, h6.get 0, h6.get 1, h6.get 2⟩
theorem boxes8_10 {w : World} {g0 g1 g2 g3 g4 g5 g6 g7 g8 g9 : Nat} {T0 T1 T2 T3 T4 T5 T6 T7 T8 T9 : TypeId} {a0 b0 c0 a1 b1 c1 a2 b2 c2 a3 b3 c3 a4 b4 c4 a5 b5 c5 a6 b6 c6 a7 b7 c7 a8 b8 c8 a9 b9 c9 : Value} (h0 : Box w g0 T0 #[a0, b0, c0]) (h1 : Box w g1 T1 #[a1, b1, c1]) (h2 : Box w g2 T2 #[a2, b2, c2]) (h3 : Box w g3 T3 #[a3, b3, c3]) (h4 : Box w g4 T4 #[a4, b4, c4]) (h5 : Box w g5 T5 #[a5, b5, c5]) (h6 : Box w g6 T6 #[a6, b6, c6]) (h7 : Box w g7 T7 #[a7, b7, c7]) (h8 : Box w g8 T8 #[a8, b8, c8]) (h9 : Box w g9 T9 #[a9, b9, c9]) : w.cell? ⟨g0, 0, none⟩ = some a0 ∧ w.cell? ⟨g0, 1, none⟩ = some b0 ∧ w.cell? ⟨g0, 2, none⟩ = some c0 ∧ w.cell? ⟨g1, 0, none⟩ = some a1 ∧ w.cell? ⟨g1, 1, none⟩ = some b1 ∧ w.cell? ⟨g1, 2, none⟩ = some c1 ∧ w.cell? ⟨g2, 0, none⟩ = some a2 ∧ w.cell? ⟨g2, 1, none⟩ = some b2 ∧ w.cell? ⟨g2, 2, none⟩ = some c2 ∧ w.cell? ⟨g3, 0, none⟩ = some a3 ∧ w.cell? ⟨g3, 1, none⟩ = some b3 ∧ w.cell? ⟨g3, 2, none⟩ = some c3 ∧ w.cell? ⟨g4, 0, none⟩ = some a4 ∧ w.cell? ⟨g4, 1, none⟩ = some b4 ∧ w.cell? ⟨g4, 2, none⟩ = some c4 ∧ w.cell? ⟨g5, 0, none⟩ = some a5 ∧ w.cell? ⟨g5, 1, none⟩ = some b5 ∧ w.cell? ⟨g5, 2, none⟩ = some c5 ∧ w.cell? ⟨g6, 0, none⟩ = some a6 ∧ w.cell? ⟨g6, 1, none⟩ = some b6 ∧ w.cell? ⟨g6, 2, none⟩ = some c6 ∧ w.cell? ⟨g7, 0, none⟩ = some a7 ∧ w.cell? ⟨g7, 1, none⟩ = some b7 ∧ w.cell? ⟨g7, 2, none⟩ = some c7 ∧ w.cell? ⟨g8, 0, none⟩ = some a8 ∧ w.cell? ⟨g8, 1, none⟩ = some b8 ∧ w.cell? ⟨g8, 2, none⟩ = some c8 ∧ w.cell? ⟨g9, 0, none⟩ = some a9 ∧ w.cell? ⟨g9, 1, none⟩ = some b9 ∧ w.cell? ⟨g9, 2, none⟩ = some c9 := ⟨h0.get 0, h0.get 1, h0.get 2, h1.get 0, h1.get 1, h1.get 2, h2.get 0, h2.get 1, h2.get 2, h3.get 0, h3.get 1, h3.get 2, h4.get 0, h4.get 1, h4.get 2, h5.get 0, h5.get 1, h5.get 2, h6.get 0, h6.get 1, h6.get 2, h7.get 0, h7.get 1, h7.get 2, h8.get 0, h8.get 1, h8.get 2, h9.get 0, h9.get 1, h9.get 2⟩
end Go.Proofs.Ytkpfhjjojchdlaa
