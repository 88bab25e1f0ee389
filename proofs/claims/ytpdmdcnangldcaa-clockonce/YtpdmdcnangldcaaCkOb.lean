/- ClockOnce: Set. -/
import Derived.Test.YtpdmdcnangldcaaCkOf
import Derived.Deep.Cut
import Derived.Deep.CutRange
import Derived.Deep.DeepCutAuto
import Derived.Deep.CutBlock
import Derived.Deep.RegionHeld3
import Derived.BigQuiet
import Derived.Deep.QuietTactic
namespace Go.Proofs.Ytpdmdcnangldcaa
open Go.RowKit Go.Maps

set_option maxHeartbeats 8000000 in
set_option maxRecDepth 100000 in
theorem arm_set {w w4 : World} {c D n i p : Nat} {a now t : Int} {P : Nat → Prop} {T : TF} {K : Act → World → Prop} {Q : Exit → Act → World → Prop} {u0 u1 u2 u5 u7 u10 u11 u12 u13 u14 u15 u16 u17 u18 u19 u20 u21 u22 u23 u24 u25 u26 u27 u28 u29 u30 u31 u32 u33 u34 u35 u36 u37 u38 u39 u40 u41 u42 u43 u44 u45 u46 u47 u48 u49 u50 u51 u52 u53 u55 u56 u57 u58 u59 u60 u61 u62 u63 u64 u65 u66 u67 u68 u69 u70 u71 u72 u73 u74 u75 u76 u77 u78 u79 u80 u81 u82 u83 u84 u85 u86 u87 u88 u89 u90 u91 u92 u93 u94 u95 u96 u97 u98 u99 u100 u101 u102 u103 u104 u105 u106 u107 u108 u109 u110 u111 u112 u113 u114 u115 u116 u117 u118 u119 u120 u121 u122 u123 u124 u125 u126 u127 u128 u129 u130 u131 u132 u133 u134 u135 u136 u137 u138 u139 u140 u141 u142 u143 u144 u145 u146 u147 u148 u149 u150 u151 u152 u153 u154 u155 u156 u157 u158 u159 u160 u161 u162 u163 u164 u165 u166 u167 u168 u169 u170 u171 u172 u173 u174 u175 u176 u177 u178 u179 u180 u181 u182 u183 u184 u185 u186 u187 u188 u189 u190 u191 u192 u193 u194 u195 u196 u197 u198 u199 u200 u201 u202 u203 u204 : Value} (code : Code) (hcode : Try.f4.body.bind (findB 4) = some code)
    (hO : OnC w w4 c D n P now T T) (hni : n ≤ i) (hi : i < 80) (ht3 : 3 ≤ t) (hp12 : p < 12) (ht0 : 0 ≤ a) (ht1 : a < 64) (hn0 : 0 ≤ now) (hn1 : now ≤ 63 * i) 
    (hK : ∀ v2 v6 v10 v11 v12 v13 v14 v15 v16 v55 v56 v57 v58 v59 v60 v61 v62 v63 v64 v65 v66 v67 v68 v69 v70 v71 v72 v73 v74 v75 v76 v77 v78 v79 v80 v81 v82 v83 v84 v85 v86 v87 v88 v89 v90 v91 v92 v93 v94 v95 v96 v97 v98 v99 v100 v101 v102 v103 v104 v105 v106 v107 v108 v109 v110 v111 v112 v113 v114 v115 v116 v117 v118 v119 v120 v121 v122 v123 v124 v125 v126 v127 v128 v129 v130 v131 v132 v133 v134 v135 v136 v137 v138 v139 v140 v141 v142 v143 v144 v145 v146 v147 v148 v149 v150 v151 v152 v153 v154 v155 v156 v157 v158 v159 v160 v161 v162 v163 v164 v165 v166 v167 v168 v169 v170 v171 v172 v173 v174 v175 v176 v177 v178 v179 v180 v181 v182 v183 v184 v185 v186 v187 v188 v189 v190 v191 v192 v193 v194 v195 v196 v197 v198 v199 v200 v201 v202 v203 v204 wx, OnceC w wx c D i v6 → K { tmps := #[u0, u1, v2, .pointer (some ⟨c, 0, none⟩), .pointer (some ⟨D, 0, none⟩), u5, v6, u7, .int .i64 (p : Nat), .int .i64 a, v10, v11, v12, v13, v14, v15, v16, u17, u18, u19, u20, u21, u22, u23, u24, u25, u26, u27, u28, u29, u30, u31, u32, u33, u34, u35, u36, u37, u38, u39, u40, u41, u42, u43, u44, u45, u46, u47, u48, u49, u50, u51, u52, u53, .int .i64 t, v55, v56, v57, v58, v59, v60, v61, v62, v63, v64, v65, v66, v67, v68, v69, v70, v71, v72, v73, v74, v75, v76, v77, v78, v79, v80, v81, v82, v83, v84, v85, v86, v87, v88, v89, v90, v91, v92, v93, v94, v95, v96, v97, v98, v99, v100, v101, v102, v103, v104, v105, v106, v107, v108, v109, v110, v111, v112, v113, v114, v115, v116, v117, v118, v119, v120, v121, v122, v123, v124, v125, v126, v127, v128, v129, v130, v131, v132, v133, v134, v135, v136, v137, v138, v139, v140, v141, v142, v143, v144, v145, v146, v147, v148, v149, v150, v151, v152, v153, v154, v155, v156, v157, v158, v159, v160, v161, v162, v163, v164, v165, v166, v167, v168, v169, v170, v171, v172, v173, v174, v175, v176, v177, v178, v179, v180, v181, v182, v183, v184, v185, v186, v187, v188, v189, v190, v191, v192, v193, v194, v195, v196, v197, v198, v199, v200, v201, v202, v203, v204], defers := [] } wx) :
    Code.wp Try.prog code (Exit.inBlock 3 (Exit.then K Q)) { tmps := #[u0, u1, u2, .pointer (some ⟨c, 0, none⟩), .pointer (some ⟨D, 0, none⟩), u5, .int .i64 now, u7, .int .i64 (p : Nat), .int .i64 a, u10, u11, u12, u13, u14, u15, u16, u17, u18, u19, u20, u21, u22, u23, u24, u25, u26, u27, u28, u29, u30, u31, u32, u33, u34, u35, u36, u37, u38, u39, u40, u41, u42, u43, u44, u45, u46, u47, u48, u49, u50, u51, u52, u53, .int .i64 t, u55, u56, u57, u58, u59, u60, u61, u62, u63, u64, u65, u66, u67, u68, u69, u70, u71, u72, u73, u74, u75, u76, u77, u78, u79, u80, u81, u82, u83, u84, u85, u86, u87, u88, u89, u90, u91, u92, u93, u94, u95, u96, u97, u98, u99, u100, u101, u102, u103, u104, u105, u106, u107, u108, u109, u110, u111, u112, u113, u114, u115, u116, u117, u118, u119, u120, u121, u122, u123, u124, u125, u126, u127, u128, u129, u130, u131, u132, u133, u134, u135, u136, u137, u138, u139, u140, u141, u142, u143, u144, u145, u146, u147, u148, u149, u150, u151, u152, u153, u154, u155, u156, u157, u158, u159, u160, u161, u162, u163, u164, u165, u166, u167, u168, u169, u170, u171, u172, u173, u174, u175, u176, u177, u178, u179, u180, u181, u182, u183, u184, u185, u186, u187, u188, u189, u190, u191, u192, u193, u194, u195, u196, u197, u198, u199, u200, u201, u202, u203, u204], defers := [] } w4 := by
  refine code_is hcode rfl ?_
  have O4 : Hid (OnC w w4 c D n P now T T ∧ n ≤ i ∧ i < 80) := ⟨hO, hni, hi⟩
  have HK : Hid (∀ v2 v6 v10 v11 v12 v13 v14 v15 v16 v55 v56 v57 v58 v59 v60 v61 v62 v63 v64 v65 v66 v67 v68 v69 v70 v71 v72 v73 v74 v75 v76 v77 v78 v79 v80 v81 v82 v83 v84 v85 v86 v87 v88 v89 v90 v91 v92 v93 v94 v95 v96 v97 v98 v99 v100 v101 v102 v103 v104 v105 v106 v107 v108 v109 v110 v111 v112 v113 v114 v115 v116 v117 v118 v119 v120 v121 v122 v123 v124 v125 v126 v127 v128 v129 v130 v131 v132 v133 v134 v135 v136 v137 v138 v139 v140 v141 v142 v143 v144 v145 v146 v147 v148 v149 v150 v151 v152 v153 v154 v155 v156 v157 v158 v159 v160 v161 v162 v163 v164 v165 v166 v167 v168 v169 v170 v171 v172 v173 v174 v175 v176 v177 v178 v179 v180 v181 v182 v183 v184 v185 v186 v187 v188 v189 v190 v191 v192 v193 v194 v195 v196 v197 v198 v199 v200 v201 v202 v203 v204 wx, OnceC w wx c D i v6 → K { tmps := #[u0, u1, v2, .pointer (some ⟨c, 0, none⟩), .pointer (some ⟨D, 0, none⟩), u5, v6, u7, .int .i64 (p : Nat), .int .i64 a, v10, v11, v12, v13, v14, v15, v16, u17, u18, u19, u20, u21, u22, u23, u24, u25, u26, u27, u28, u29, u30, u31, u32, u33, u34, u35, u36, u37, u38, u39, u40, u41, u42, u43, u44, u45, u46, u47, u48, u49, u50, u51, u52, u53, .int .i64 t, v55, v56, v57, v58, v59, v60, v61, v62, v63, v64, v65, v66, v67, v68, v69, v70, v71, v72, v73, v74, v75, v76, v77, v78, v79, v80, v81, v82, v83, v84, v85, v86, v87, v88, v89, v90, v91, v92, v93, v94, v95, v96, v97, v98, v99, v100, v101, v102, v103, v104, v105, v106, v107, v108, v109, v110, v111, v112, v113, v114, v115, v116, v117, v118, v119, v120, v121, v122, v123, v124, v125, v126, v127, v128, v129, v130, v131, v132, v133, v134, v135, v136, v137, v138, v139, v140, v141, v142, v143, v144, v145, v146, v147, v148, v149, v150, v151, v152, v153, v154, v155, v156, v157, v158, v159, v160, v161, v162, v163, v164, v165, v166, v167, v168, v169, v170, v171, v172, v173, v174, v175, v176, v177, v178, v179, v180, v181, v182, v183, v184, v185, v186, v187, v188, v189, v190, v191, v192, v193, v194, v195, v196, v197, v198, v199, v200, v201, v202, v203, v204], defers := [] } wx) := hK
  have hpi : (p : Int) < 12 := by omega
  clear hcode hO hni hK
  have t0 : (t == 0) = false := beq_eq_false_iff_ne.2 (by omega)
  have t1 : (t == 1) = false := beq_eq_false_iff_ne.2 (by omega)
  have t2 : (t == 2) = false := beq_eq_false_iff_ne.2 (by omega)
  clear ht3
  have HD : Hid (∀ W, Upd [] w4 W → Calls Try.prog 9 #[.pointer (some ⟨c, 0, none⟩), .int .i64 p, .int .i64 a] W fun e w' => e = .returned (.bool (T p).isNone) ∧ ∃ P', OnC w w' c D (n + 1) P' now (setT T now p a) T) := fun W hW => on_set (O4.out.1.upd hW) (by have := O4.out; omega) hp12 ht0 ht1
  have qd : w4.cell? ⟨D, p, none⟩ = some (.int .i64 (dv T p)) := O4.out.1.due.cell hp12
  have HR : Hid (∀ x t, T x = some t → 0 ≤ t) := fun x t h => (O4.out.1.own.ck.rng x t h).1
  have HS : Hid (setB T p a = (T p).isNone) := setB_small ht0 ht1
  have hwr : IntKind.i64.wrap (now + a) = now + a := IntWalk.i64_in _ ⟨by omega, by omega⟩
  cases hT : T p with
  | none =>
    have hdv : dv T p = -1 := by unfold dv; rw [hT]; rfl
    rw [hT] at HD HS
    rw [hdv] at qd
    have HTT : Hid (T p = none ∧ dv T p = -1) := ⟨hT, hdv⟩
    clear hT hdv
    go_upto_region 17 with fail
    go_region_held3 (fun W => W.cell? ⟨D, p, none⟩ = some (.int .i64 (-1))) (go_keep)
      (first
        | (go_at_call 9; go_loud (refine Calls.mono (HD.out _ (by repeat (first | exact Upd.refl _ _ | refine Upd.drew ?_))) ?_); rintro e w6 ⟨rfl, P', h6⟩; have H6 : Hid (OnC w w6 c D (n + 1) P' now (setT T now p a) T) := h6; have p1 : w6.cell? ⟨D, p, none⟩ = some (.int .i64 (-1)) := h6.due.at hp12 HTT.out.2; clear h6))
    all_goals
      have f1 : w6.frozen? ⟨D, p, none⟩ = false := H6.out.due.free p
      have HF : Hid (OnC w (w6.setCell ⟨D, p, none⟩ (.int .i64 (now + a))) c D (n + 1) P' now (setT T now p a) (setT T now p a)) := H6.out.store (now + a) (by rw [setT_pos (by rw [HS.out]; rfl)]; unfold dv; rw [at1_same]; rfl) (fun q hq => by rw [setT_pos (by rw [HS.out]; rfl)]; exact at1_other _ _ (by omega))
      go_wp2_with fail
      (try simp only [Exit.inBlock, Exit.then])
      apply HK.out
      exact ⟨n + 1, P', now, setT T now p a, by have := O4.out; omega, rfl, hn0, by omega, (by repeat (first | exact HF.out | refine OnC.upd ?_ ((Upd.refl [] _).drew)))⟩
  | some t' =>
    have hdv : dv T p = t' := by unfold dv; rw [hT]; rfl
    have ht0' : 0 ≤ t' := HR.out p t' hT
    rw [hT] at HD HS
    rw [hdv] at qd
    have HTT : Hid (T p = some t' ∧ dv T p = t') := ⟨hT, hdv⟩
    have dt : decide (t' < 0) = false := decide_eq_false (by omega)
    clear hT hdv
    go_upto_region 17 with fail
    go_region_held3 (fun W => W.cell? ⟨D, p, none⟩ = some (.int .i64 t')) (go_keep)
      (first
        | (go_at_call 9; go_loud (refine Calls.mono (HD.out _ (by repeat (first | exact Upd.refl _ _ | refine Upd.drew ?_))) ?_); rintro e w6 ⟨rfl, P', h6⟩; have H6 : Hid (OnC w w6 c D (n + 1) P' now (setT T now p a) T) := h6; have p1 : w6.cell? ⟨D, p, none⟩ = some (.int .i64 t') := h6.due.at hp12 HTT.out.2; clear h6))
    all_goals
      have HF : Hid (OnC w w6 c D (n + 1) P' now T T) := by
        have h := H6.out
        unfold setT at h
        rw [if_neg (by rw [HS.out]; simp)] at h
        exact h
      go_wp2_with fail
      (try simp only [Exit.inBlock, Exit.then])
      apply HK.out
      exact ⟨n + 1, P', now, T, by have := O4.out; omega, rfl, hn0, by omega, (by repeat (first | exact HF.out | refine OnC.upd ?_ ((Upd.refl [] _).drew)))⟩

end Go.Proofs.Ytpdmdcnangldcaa
