/-
  The switch over the acts of BufPlays: its frame, and what it leaves.
-/
import Derived.Test.YtabkgdichlebmaaTwo
namespace Go.Proofs.Ytabkgdichlebmaa
open Go.ChangeShapes Go.WideShapes Go.ChangeAt Go.RowKit
set_option linter.unusedVariables false

structure Deed3 where
  kind : Int
  a : Int
  z : Int
  n : Int
  x : Cel
def noDeed3 : Deed3 := ⟨0, 0, 0, 0, noCel⟩
def deedL (d : Deed3) : List Value := [.int .i64 d.kind, .int .i64 d.a, .int .i64 d.z, .int .i64 d.n, .int .i64 d.x.v, .bool d.x.ok]
def DeedOk (d : Deed3) : Prop := I64 d.a ∧ I64 d.z ∧ I64 d.n
/-- the slice at A holds these deeds, below block B. -/
def Acts3 (w : World) (B : Nat) (A : Option Addr) (k : Nat) (ds : List Deed3) : Prop :=
  ds.length = k ∧ (∀ i, DeedOk (ds.getD i noDeed3)) ∧
  (0 < k → ∃ b off, A = some ⟨b, off, none⟩ ∧ b < B ∧ ∀ i, i < k → ∀ j, j < 6 → w.cell? ⟨b, off + i * 6 + j, none⟩ = (deedL (ds.getD i noDeed3))[j]?)
theorem Acts3.keep {w w' : World} {B : Nat} {A : Option Addr} {k : Nat} {ds : List Deed3} (h : Acts3 w B A k ds) (hb : Below B w w') : Acts3 w' B A k ds :=
  ⟨h.1, h.2.1, fun h0 => by
    obtain ⟨b, off, e, hlt, hc⟩ := h.2.2 h0
    exact ⟨b, off, e, hlt, fun i hi j hj => (hb.cell (p := ⟨b, off + i * 6 + j, none⟩) hlt).trans (hc i hi j hj)⟩⟩
/-- what stands between two acts. -/
def Stand (w1 : World) (L U : Nat) (A A' p q : Option Addr) (n c n' c' : Nat) (l m : List Cel) (wr : World) : Prop :=
  CelsX wr L U A n c l ∧ CelsX wr L U A' n' c' m ∧ Two wr L U p q l m ∧ w1.grownBy wr none ∧ w1.heap.size ≤ L ∧ U ≤ wr.heap.size ∧ n ≤ 200 ∧ n' ≤ 200
theorem Stand.grow {w1 wr w' : World} {L U n c n' c' : Nat} {A A' p q : Option Addr} {l m : List Cel} (h : Stand w1 L U A A' p q n c n' c' l m wr) (hg : wr.grownBy w' none) : Stand w1 L U A A' p q n c n' c' l m w' :=
  ⟨h.1.grow hg, h.2.1.grow hg, h.2.2.1.grow hg, join0 h.2.2.2.1 hg, h.2.2.2.2.1, Nat.le_trans h.2.2.2.2.2.1 hg.size, h.2.2.2.2.2.2⟩
theorem stand_next {w1 W w6 w7 : World} {L U n c n' c' n5 c5 : Nat} {A A' p q A5 : Option Addr} {l m l2 : List Cel} (h : Stand w1 L U A A' p q n c n' c' l m W) (ht : Turn L U W w6) (hT : Two w6 L U p q l2 m) (hg : w6.grownBy w7 none) (hx : CelsX w7 L U A5 n5 c5 l2) (hn5 : n5 ≤ 200) :
    Stand w1 L U A5 A' p q n5 c5 n' c' l2 m w7 := by
  obtain ⟨h1, h2, h3, h4, h5, h6, h7, h8⟩ := h
  exact ⟨hx, (h2.turned ht).grow hg, hT.grow hg, join0 (Turn.after h4 ht h5) hg, h5, Nat.le_trans h6 (Nat.le_trans ht.size hg.size), hn5, h8⟩
theorem stand_same {w1 W w6 : World} {L U n c n' c' : Nat} {A A' p q : Option Addr} {l m : List Cel} (h : Stand w1 L U A A' p q n c n' c' l m W) (ht : Turn L U W w6) (hT : Two w6 L U p q l m) : Stand w1 L U A A' p q n c n' c' l m w6 :=
  stand_next h ht hT (grown_refl _ _) (h.1.turned ht) h.2.2.2.2.2.2.1
/-- the row first, then the Buf. -/
theorem stand_row {w1 W w6 w7 : World} {L U n c n' c' n5 c5 : Nat} {A A' p q A5 : Option Addr} {l m l2 : List Cel} (h : Stand w1 L U A A' p q n c n' c' l m W) (hg : W.grownBy w6 none) (hx : CelsX w6 L U A5 n5 c5 l2) (ht : Turn L U w6 w7) (hT : Two w7 L U p q l2 m) (hn5 : n5 ≤ 200) :
    Stand w1 L U A5 A' p q n5 c5 n' c' l2 m w7 := by
  obtain ⟨h1, h2, h3, h4, h5, h6, h7, h8⟩ := h
  exact ⟨hx.turned ht, (h2.grow hg).turned ht, hT, Turn.after (join0 h4 hg) ht h5, h5, Nat.le_trans h6 (Nat.le_trans hg.size ht.size), hn5, h8⟩
theorem stand_swap {w1 W : World} {L U n c n' c' : Nat} {A A' p q : Option Addr} {l m : List Cel} (h : Stand w1 L U A A' p q n c n' c' l m W) : Stand w1 L U A' A q p n' c' n c m l W := by
  obtain ⟨h1, h2, h3, h4, h5, h6, h7, h8⟩ := h
  exact ⟨h2, h1, h3.symm, h4, h5, h6, h8, h7⟩
/-- between the acts, the deed's copy at P. -/
def StandB (w1 : World) (L U P : Nat) (cs : Array Value) (A A' p q : Option Addr) (n c n' c' : Nat) (l m : List Cel) (wr : World) : Prop := Stand w1 L U A A' p q n c n' c' l m wr ∧ Box wr P 32 cs ∧ U ≤ P
theorem box_six {wr : World} {P : Nat} {t : TypeId} {v0 v1 v2 v3 v4 v5 : Value} (h : Box wr P t #[v0, v1, v2, v3, v4, v5]) :
    wr.cell? ⟨P, 0, none⟩ = some v0 ∧ wr.cell? ⟨P, 1, none⟩ = some v1 ∧ wr.cell? ⟨P, 2, none⟩ = some v2 ∧ wr.cell? ⟨P, 3, none⟩ = some v3 ∧ wr.cell? ⟨P, 4, none⟩ = some v4 ∧ wr.cell? ⟨P, 5, none⟩ = some v5 :=
  ⟨by rw [h.get]; rfl, by rw [h.get]; rfl, by rw [h.get]; rfl, by rw [h.get]; rfl, by rw [h.get]; rfl, by rw [h.get]; rfl⟩
theorem hasN_yes {m : Nat} {i n : Int} (h1 : 0 ≤ i) (h2 : 0 ≤ n) (h3 : n ≤ m - i) : hasN m i n = true := decide_eq_true ⟨h1, h2, h3⟩
theorem hasN_no {m : Nat} {i n : Int} (h : ¬ (0 ≤ i ∧ 0 ≤ n ∧ n ≤ m - i)) : hasN m i n = false := decide_eq_false h
/-- block n of a text. -/
def findBlock (n : Nat) : Code → Option Code
  | .block k c => if k = n then some (.block k c) else findBlock n c
  | .seq a b => match findBlock n a with
    | some c => some c
    | none => findBlock n b
  | .cond _ a b => match findBlock n a with
    | some c => some c
    | none => findBlock n b
  | .loop c => findBlock n c
  | .scope c => findBlock n c
  | _ => none
set_option maxRecDepth 1000000 in
/-- what the switch leaves. -/
def SwPost (w : World) (L U P : Nat) (cs : Array Value) (kind : Int) (v2 v3 v4 v5 v6 v9 v19 v20 v21 v22 v23 v24 v25 v26 v27 v28 v29 v30 v31 v32 v33 v34 v35 v36 v37 v38 v39 v40 v41 v42 v43 v44 v45 v46 v47 v48 v49 v50 v51 v52 v53 v54 v55 v56 v190 v191 v192 v193 v194 v195 v196 v197 v198 v199 v200 v201 v202 v203 v204 v205 v206 v207 v208 v209 v210 v211 v212 v213 v214 v215 v216 v217 v218 v219 v220 v221 v222 v223 v224 v225 v226 v227 v228 v229 v230 v231 v232 v233 v234 v235 v236 v237 v238 v239 v240 v241 v242 v243 v244 v245 v246 v247 : Value) (e : Exit) (a' : Act) (w' : World) : Prop :=
  ∃ (f : Nat → Value) (A A' p q : Option Addr) (n c n' c' : Nat) (l m : List Cel), e = .normal ∧ StandB w L U P cs A A' p q n c n' c' l m w' ∧ a' = ⟨#[.slice A n c, .slice A' n' c', v2, v3, v4, v5, v6, .pointer p, .pointer q, v9, .pointer (some ⟨P, 0, none⟩), .bool true, f 12, f 13, f 14, f 15, f 16, f 17, f 18, v19, v20, v21, v22, v23, v24, v25, v26, v27, v28, v29, v30, v31, v32, v33, v34, v35, v36, v37, v38, v39, v40, v41, v42, v43, v44, v45, v46, v47, v48, v49, v50, v51, v52, v53, v54, v55, v56, .int .i64 kind, f 58, f 59, f 60, f 61, f 62, f 63, f 64, f 65, f 66, f 67, f 68, f 69, f 70, f 71, f 72, f 73, f 74, f 75, f 76, f 77, f 78, f 79, f 80, f 81, f 82, f 83, f 84, f 85, f 86, f 87, f 88, f 89, f 90, f 91, f 92, f 93, f 94, f 95, f 96, f 97, f 98, f 99, f 100, f 101, f 102, f 103, f 104, f 105, f 106, f 107, f 108, f 109, f 110, f 111, f 112, f 113, f 114, f 115, f 116, f 117, f 118, f 119, f 120, f 121, f 122, f 123, f 124, f 125, f 126, f 127, f 128, f 129, f 130, f 131, f 132, f 133, f 134, f 135, f 136, f 137, f 138, f 139, f 140, f 141, f 142, f 143, f 144, f 145, f 146, f 147, f 148, f 149, f 150, f 151, f 152, f 153, f 154, f 155, f 156, f 157, f 158, f 159, f 160, f 161, f 162, f 163, f 164, f 165, f 166, f 167, f 168, f 169, f 170, f 171, f 172, f 173, f 174, f 175, f 176, f 177, f 178, f 179, f 180, f 181, f 182, f 183, f 184, f 185, f 186, f 187, f 188, f 189, v190, v191, v192, v193, v194, v195, v196, v197, v198, v199, v200, v201, v202, v203, v204, v205, v206, v207, v208, v209, v210, v211, v212, v213, v214, v215, v216, v217, v218, v219, v220, v221, v222, v223, v224, v225, v226, v227, v228, v229, v230, v231, v232, v233, v234, v235, v236, v237, v238, v239, v240, v241, v242, v243, v244, v245, v246, v247], []⟩
set_option maxRecDepth 1000000 in
theorem sw_done {w : World} {L U P : Nat} {cs : Array Value} {kind : Int} {v2 v3 v4 v5 v6 v9 v19 v20 v21 v22 v23 v24 v25 v26 v27 v28 v29 v30 v31 v32 v33 v34 v35 v36 v37 v38 v39 v40 v41 v42 v43 v44 v45 v46 v47 v48 v49 v50 v51 v52 v53 v54 v55 v56 v190 v191 v192 v193 v194 v195 v196 v197 v198 v199 v200 v201 v202 v203 v204 v205 v206 v207 v208 v209 v210 v211 v212 v213 v214 v215 v216 v217 v218 v219 v220 v221 v222 v223 v224 v225 v226 v227 v228 v229 v230 v231 v232 v233 v234 v235 v236 v237 v238 v239 v240 v241 v242 v243 v244 v245 v246 v247 : Value} {w' : World} {arr : Array Value} {A A' p q : Option Addr} {n c n' c' : Nat} {l m : List Cel} (h : StandB w L U P cs A A' p q n c n' c' l m w')
    (hs : arr = #[.slice A n c, .slice A' n' c', v2, v3, v4, v5, v6, .pointer p, .pointer q, v9, .pointer (some ⟨P, 0, none⟩), .bool true, arr.getD 12 (.bool false), arr.getD 13 (.bool false), arr.getD 14 (.bool false), arr.getD 15 (.bool false), arr.getD 16 (.bool false), arr.getD 17 (.bool false), arr.getD 18 (.bool false), v19, v20, v21, v22, v23, v24, v25, v26, v27, v28, v29, v30, v31, v32, v33, v34, v35, v36, v37, v38, v39, v40, v41, v42, v43, v44, v45, v46, v47, v48, v49, v50, v51, v52, v53, v54, v55, v56, .int .i64 kind, arr.getD 58 (.bool false), arr.getD 59 (.bool false), arr.getD 60 (.bool false), arr.getD 61 (.bool false), arr.getD 62 (.bool false), arr.getD 63 (.bool false), arr.getD 64 (.bool false), arr.getD 65 (.bool false), arr.getD 66 (.bool false), arr.getD 67 (.bool false), arr.getD 68 (.bool false), arr.getD 69 (.bool false), arr.getD 70 (.bool false), arr.getD 71 (.bool false), arr.getD 72 (.bool false), arr.getD 73 (.bool false), arr.getD 74 (.bool false), arr.getD 75 (.bool false), arr.getD 76 (.bool false), arr.getD 77 (.bool false), arr.getD 78 (.bool false), arr.getD 79 (.bool false), arr.getD 80 (.bool false), arr.getD 81 (.bool false), arr.getD 82 (.bool false), arr.getD 83 (.bool false), arr.getD 84 (.bool false), arr.getD 85 (.bool false), arr.getD 86 (.bool false), arr.getD 87 (.bool false), arr.getD 88 (.bool false), arr.getD 89 (.bool false), arr.getD 90 (.bool false), arr.getD 91 (.bool false), arr.getD 92 (.bool false), arr.getD 93 (.bool false), arr.getD 94 (.bool false), arr.getD 95 (.bool false), arr.getD 96 (.bool false), arr.getD 97 (.bool false), arr.getD 98 (.bool false), arr.getD 99 (.bool false), arr.getD 100 (.bool false), arr.getD 101 (.bool false), arr.getD 102 (.bool false), arr.getD 103 (.bool false), arr.getD 104 (.bool false), arr.getD 105 (.bool false), arr.getD 106 (.bool false), arr.getD 107 (.bool false), arr.getD 108 (.bool false), arr.getD 109 (.bool false), arr.getD 110 (.bool false), arr.getD 111 (.bool false), arr.getD 112 (.bool false), arr.getD 113 (.bool false), arr.getD 114 (.bool false), arr.getD 115 (.bool false), arr.getD 116 (.bool false), arr.getD 117 (.bool false), arr.getD 118 (.bool false), arr.getD 119 (.bool false), arr.getD 120 (.bool false), arr.getD 121 (.bool false), arr.getD 122 (.bool false), arr.getD 123 (.bool false), arr.getD 124 (.bool false), arr.getD 125 (.bool false), arr.getD 126 (.bool false), arr.getD 127 (.bool false), arr.getD 128 (.bool false), arr.getD 129 (.bool false), arr.getD 130 (.bool false), arr.getD 131 (.bool false), arr.getD 132 (.bool false), arr.getD 133 (.bool false), arr.getD 134 (.bool false), arr.getD 135 (.bool false), arr.getD 136 (.bool false), arr.getD 137 (.bool false), arr.getD 138 (.bool false), arr.getD 139 (.bool false), arr.getD 140 (.bool false), arr.getD 141 (.bool false), arr.getD 142 (.bool false), arr.getD 143 (.bool false), arr.getD 144 (.bool false), arr.getD 145 (.bool false), arr.getD 146 (.bool false), arr.getD 147 (.bool false), arr.getD 148 (.bool false), arr.getD 149 (.bool false), arr.getD 150 (.bool false), arr.getD 151 (.bool false), arr.getD 152 (.bool false), arr.getD 153 (.bool false), arr.getD 154 (.bool false), arr.getD 155 (.bool false), arr.getD 156 (.bool false), arr.getD 157 (.bool false), arr.getD 158 (.bool false), arr.getD 159 (.bool false), arr.getD 160 (.bool false), arr.getD 161 (.bool false), arr.getD 162 (.bool false), arr.getD 163 (.bool false), arr.getD 164 (.bool false), arr.getD 165 (.bool false), arr.getD 166 (.bool false), arr.getD 167 (.bool false), arr.getD 168 (.bool false), arr.getD 169 (.bool false), arr.getD 170 (.bool false), arr.getD 171 (.bool false), arr.getD 172 (.bool false), arr.getD 173 (.bool false), arr.getD 174 (.bool false), arr.getD 175 (.bool false), arr.getD 176 (.bool false), arr.getD 177 (.bool false), arr.getD 178 (.bool false), arr.getD 179 (.bool false), arr.getD 180 (.bool false), arr.getD 181 (.bool false), arr.getD 182 (.bool false), arr.getD 183 (.bool false), arr.getD 184 (.bool false), arr.getD 185 (.bool false), arr.getD 186 (.bool false), arr.getD 187 (.bool false), arr.getD 188 (.bool false), arr.getD 189 (.bool false), v190, v191, v192, v193, v194, v195, v196, v197, v198, v199, v200, v201, v202, v203, v204, v205, v206, v207, v208, v209, v210, v211, v212, v213, v214, v215, v216, v217, v218, v219, v220, v221, v222, v223, v224, v225, v226, v227, v228, v229, v230, v231, v232, v233, v234, v235, v236, v237, v238, v239, v240, v241, v242, v243, v244, v245, v246, v247]) : SwPost w L U P cs kind v2 v3 v4 v5 v6 v9 v19 v20 v21 v22 v23 v24 v25 v26 v27 v28 v29 v30 v31 v32 v33 v34 v35 v36 v37 v38 v39 v40 v41 v42 v43 v44 v45 v46 v47 v48 v49 v50 v51 v52 v53 v54 v55 v56 v190 v191 v192 v193 v194 v195 v196 v197 v198 v199 v200 v201 v202 v203 v204 v205 v206 v207 v208 v209 v210 v211 v212 v213 v214 v215 v216 v217 v218 v219 v220 v221 v222 v223 v224 v225 v226 v227 v228 v229 v230 v231 v232 v233 v234 v235 v236 v237 v238 v239 v240 v241 v242 v243 v244 v245 v246 v247 .normal ⟨arr, []⟩ w' :=
  ⟨fun i => arr.getD i (.bool false), A, A', p, q, n, c, n', c', l, m, rfl, h, congrArg (fun t => Act.mk t []) hs⟩
end Go.Proofs.Ytabkgdichlebmaa
