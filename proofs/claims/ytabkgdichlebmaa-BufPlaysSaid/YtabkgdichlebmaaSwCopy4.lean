/-
  The switch of BufPlays: Copy of itself, the other number.
-/
import Derived.Test.YtabkgdichlebmaaSw
namespace Go.Proofs.Ytabkgdichlebmaa
open Go.ChangeShapes Go.WideShapes Go.ChangeAt Go.RowKit
set_option linter.unusedVariables false

set_option maxRecDepth 100000 in
set_option maxHeartbeats 8000000 in
theorem sw_copy4 (w W0 : World) (L U P : Nat) (A A' p q : Option Addr) (n c n' c' : Nat) (l m : List Cel) (a z nn xv : Int) (xo : Bool) (v2 v3 v4 v5 v6 v9 v12 v13 v14 v15 v16 v17 v18 v19 v20 v21 v22 v23 v24 v25 v26 v27 v28 v29 v30 v31 v32 v33 v34 v35 v36 v37 v38 v39 v40 v41 v42 v43 v44 v45 v46 v47 v48 v49 v50 v51 v52 v53 v54 v55 v56 v58 v59 v60 v61 v62 v63 v64 v65 v66 v67 v68 v69 v70 v71 v72 v73 v74 v75 v76 v77 v78 v79 v80 v81 v82 v83 v84 v85 v86 v87 v88 v89 v90 v91 v92 v93 v94 v95 v96 v97 v98 v99 v100 v101 v102 v103 v104 v105 v106 v107 v108 v109 v110 v111 v112 v113 v114 v115 v116 v117 v118 v119 v120 v121 v122 v123 v124 v125 v126 v127 v128 v129 v130 v131 v132 v133 v134 v135 v136 v137 v138 v139 v140 v141 v142 v143 v144 v145 v146 v147 v148 v149 v150 v151 v152 v153 v154 v155 v156 v157 v158 v159 v160 v161 v162 v163 v164 v165 v166 v167 v168 v169 v170 v171 v172 v173 v174 v175 v176 v177 v178 v179 v180 v181 v182 v183 v184 v185 v186 v187 v188 v189 v190 v191 v192 v193 v194 v195 v196 v197 v198 v199 v200 v201 v202 v203 v204 v205 v206 v207 v208 v209 v210 v211 v212 v213 v214 v215 v216 v217 v218 v219 v220 v221 v222 v223 v224 v225 v226 v227 v228 v229 v230 v231 v232 v233 v234 v235 v236 v237 v238 v239 v240 v241 v242 v243 v244 v245 v246 v247 : Value) (h : StandB w L U P #[.int .i64 4, .int .i64 a, .int .i64 z, .int .i64 nn, .int .i64 xv, .bool xo] A A' p q n c n' c' l m W0) (ia : I64 a) (iz : I64 z) (inn : I64 nn) :
    Code.wp Try.prog ((Try.f3.body.bind (findBlock 2)).getD .skip) (SwPost w L U P #[.int .i64 4, .int .i64 a, .int .i64 z, .int .i64 nn, .int .i64 xv, .bool xo] 4 v2 v3 v4 v5 v6 v9 v19 v20 v21 v22 v23 v24 v25 v26 v27 v28 v29 v30 v31 v32 v33 v34 v35 v36 v37 v38 v39 v40 v41 v42 v43 v44 v45 v46 v47 v48 v49 v50 v51 v52 v53 v54 v55 v56 v190 v191 v192 v193 v194 v195 v196 v197 v198 v199 v200 v201 v202 v203 v204 v205 v206 v207 v208 v209 v210 v211 v212 v213 v214 v215 v216 v217 v218 v219 v220 v221 v222 v223 v224 v225 v226 v227 v228 v229 v230 v231 v232 v233 v234 v235 v236 v237 v238 v239 v240 v241 v242 v243 v244 v245 v246 v247) ⟨#[.slice A n c, .slice A' n' c', v2, v3, v4, v5, v6, .pointer p, .pointer q, v9, .pointer (some ⟨P, 0, none⟩), .bool true, v12, v13, v14, v15, v16, v17, v18, v19, v20, v21, v22, v23, v24, v25, v26, v27, v28, v29, v30, v31, v32, v33, v34, v35, v36, v37, v38, v39, v40, v41, v42, v43, v44, v45, v46, v47, v48, v49, v50, v51, v52, v53, v54, v55, v56, .int .i64 4, v58, v59, v60, v61, v62, v63, v64, v65, v66, v67, v68, v69, v70, v71, v72, v73, v74, v75, v76, v77, v78, v79, v80, v81, v82, v83, v84, v85, v86, v87, v88, v89, v90, v91, v92, v93, v94, v95, v96, v97, v98, v99, v100, v101, v102, v103, v104, v105, v106, v107, v108, v109, v110, v111, v112, v113, v114, v115, v116, v117, v118, v119, v120, v121, v122, v123, v124, v125, v126, v127, v128, v129, v130, v131, v132, v133, v134, v135, v136, v137, v138, v139, v140, v141, v142, v143, v144, v145, v146, v147, v148, v149, v150, v151, v152, v153, v154, v155, v156, v157, v158, v159, v160, v161, v162, v163, v164, v165, v166, v167, v168, v169, v170, v171, v172, v173, v174, v175, v176, v177, v178, v179, v180, v181, v182, v183, v184, v185, v186, v187, v188, v189, v190, v191, v192, v193, v194, v195, v196, v197, v198, v199, v200, v201, v202, v203, v204, v205, v206, v207, v208, v209, v210, v211, v212, v213, v214, v215, v216, v217, v218, v219, v220, v221, v222, v223, v224, v225, v226, v227, v228, v229, v230, v231, v232, v233, v234, v235, v236, v237, v238, v239, v240, v241, v242, v243, v244, v245, v246, v247], []⟩ W0 := by
  have HS0 := Lib.hid h
  have HIA := Lib.hid ia
  have HIZ := Lib.hid iz
  have HIN := Lib.hid inn
  have HL := Lib.hid h.1.1.1.1
  have HL' := Lib.hid h.1.2.1.1.1
  have hn1 := h.1.2.2.2.2.2.2.1
  have hn2 := h.1.2.2.2.2.2.2.2
  obtain ⟨d0, d1, d2, d3, d4, d5⟩ := box_six h.2.1
  clear h ia iz inn
  conv => arg 2; whnf
  cases hq : copyB l a l z nn
  · have HQ := Lib.hid hq
    have HQ2 := Lib.hid (show (hasN n a nn && hasN n z nn) = false by rw [← HL.out]; exact hq)
    clear hq
    go_wp2_with fail
    refine (ref3Copy_no A A n n c c a z nn W0 HIA.out HIZ.out HIN.out (by omega) (by omega) HQ2.out).mono ?_
    rintro e w6 ⟨rfl, hww⟩
    subst hww
    go_wp2_with fail
    refine (two_copy_self _ L U p q l m HS0.out.1.2.2.1 a z nn HIA.out HIZ.out HIN.out).mono ?_
    rw [HQ.out]
    rintro e w7 ⟨rfl, hT, ht⟩
    have HE := Lib.hid (show layCE l a l z nn = l by unfold layCE; rw [HQ.out]; rfl)
    rw [HE.out] at hT
    have HFIN := Lib.hid (stand_same HS0.out.1 ht hT)
    have HBX := Lib.hid (ht.box HS0.out.2.1 (.inr HS0.out.2.2))
    clear hT ht d0 d1 d2 d3 d4 d5
    go_wp2_with fail
    exact sw_done ⟨HFIN.out, HBX.out, HS0.out.2.2⟩ rfl
  · have HQ := Lib.hid hq
    have hb := hq
    unfold copyB at hb
    rw [Bool.and_eq_true] at hb
    have h1 := of_decide_eq_true hb.1
    have h2 := of_decide_eq_true hb.2
    rw [HL.out] at h1
    rw [HL.out] at h2
    clear hq hb
    obtain ⟨T, rfl⟩ : ∃ i : Nat, a = i := ⟨a.toNat, by omega⟩
    obtain ⟨F, rfl⟩ : ∃ i : Nat, z = i := ⟨z.toNat, by omega⟩
    obtain ⟨K, rfl⟩ : ∃ i : Nat, nn = i := ⟨nn.toNat, by omega⟩
    have HC := Lib.hid (ref3Copy_yes A A n n c c l l W0 HS0.out.1.1.2.1 HS0.out.1.1.1 HS0.out.1.1.1 (by omega) (by omega) T F K (by omega) (by omega))
    clear h1 h2
    go_wp2_with fail
    refine HC.out.mono ?_
    rintro e w6 ⟨A5, c5, rfl, ho, hg⟩
    rw [layC_length, HL.out] at ho
    rw [layC_length, HL.out]
    have HX6 := Lib.hid (ho.x (L := L) HS0.out.1.2.2.2.2.2.1)
    have HG6 := Lib.hid hg
    have HBX6 := Lib.hid (HS0.out.2.1.grown hg (by simp))
    obtain ⟨k0, k1, k2, k3, k4, k5⟩ := box_six HBX6.out
    clear ho hg d0 d1 d2 d3 d4 d5
    go_wp2_with fail
    refine (two_copy_self _ L U p q l m (HS0.out.1.2.2.1.grow HG6.out) T F K HIA.out HIZ.out HIN.out).mono ?_
    rw [HQ.out]
    rintro e w7 ⟨rfl, hT, ht⟩
    have HE := Lib.hid (show layCE l (T : Int) l (F : Int) (K : Int) = layC l T l F K by unfold layCE; rw [HQ.out]; rfl)
    rw [HE.out] at hT
    have HFIN := Lib.hid (stand_row HS0.out.1 HG6.out HX6.out ht hT hn1)
    have HBX := Lib.hid (ht.box HBX6.out (.inr HS0.out.2.2))
    clear hT ht k0 k1 k2 k3 k4 k5
    go_wp2_with fail
    exact sw_done ⟨HFIN.out, HBX.out, HS0.out.2.2⟩ rfl
end Go.Proofs.Ytabkgdichlebmaa
