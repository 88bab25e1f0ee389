/- ClockOnce: Tick. -/
import Derived.Test.YtpdmdcnangldcaaCkL4
import Derived.Deep.Cut
import Derived.Deep.CutRange
import Derived.Deep.DeepCutAuto
import Derived.Deep.CutBlock
import Derived.Deep.RegionHeld3
import Derived.BigQuiet
import Derived.Deep.QuietTactic
namespace Go.Proofs.Ytpdmdcnangldcaa
open Go.RowKit Go.Maps

set_option maxHeartbeats 8000000 in
set_option maxRecDepth 100000 in
theorem arm_tick {w w4 : World} {c D n i p : Nat} {a now t : Int} {P : Nat → Prop} {T : TF} {K : Act → World → Prop} {Q : Exit → Act → World → Prop} {u0 u1 u2 u5 u7 u10 u11 u12 u13 u14 u15 u16 u17 u18 u19 u20 u21 u22 u23 u24 u25 u26 u27 u28 u29 u30 u31 u32 u33 u34 u35 u36 u37 u38 u39 u40 u41 u42 u43 u44 u45 u46 u47 u48 u49 u50 u51 u52 u53 u55 u56 u57 u58 u59 u60 u61 u62 u63 u64 u65 u66 u67 u68 u69 u70 u71 u72 u73 u74 u75 u76 u77 u78 u79 u80 u81 u82 u83 u84 u85 u86 u87 u88 u89 u90 u91 u92 u93 u94 u95 u96 u97 u98 u99 u100 u101 u102 u103 u104 u105 u106 u107 u108 u109 u110 u111 u112 u113 u114 u115 u116 u117 u118 u119 u120 u121 u122 u123 u124 u125 u126 u127 u128 u129 u130 u131 u132 u133 u134 u135 u136 u137 u138 u139 u140 u141 u142 u143 u144 u145 u146 u147 u148 u149 u150 u151 u152 u153 u154 u155 u156 u157 u158 u159 u160 u161 u162 u163 u164 u165 u166 u167 u168 u169 u170 u171 u172 u173 u174 u175 u176 u177 u178 u179 u180 u181 u182 u183 u184 u185 u186 u187 u188 u189 u190 u191 u192 u193 u194 u195 u196 u197 u198 u199 u200 u201 u202 u203 u204 : Value} (code : Code) (hcode : Try.f4.body.bind (findB 4) = some code)
    (hO : OnC w w4 c D n P now T T) (hni : n ≤ i) (hi : i < 80) (ht : t = 0 ∨ t = 1) (hp12 : p < 12) (ht0 : 0 ≤ a) (ht1 : a < 64) (hn0 : 0 ≤ now) (hn1 : now ≤ 63 * i) 
    (hK : ∀ v2 v6 v10 v11 v12 v13 v14 v15 v16 v55 v56 v57 v58 v59 v60 v61 v62 v63 v64 v65 v66 v67 v68 v69 v70 v71 v72 v73 v74 v75 v76 v77 v78 v79 v80 v81 v82 v83 v84 v85 v86 v87 v88 v89 v90 v91 v92 v93 v94 v95 v96 v97 v98 v99 v100 v101 v102 v103 v104 v105 v106 v107 v108 v109 v110 v111 v112 v113 v114 v115 v116 v117 v118 v119 v120 v121 v122 v123 v124 v125 v126 v127 v128 v129 v130 v131 v132 v133 v134 v135 v136 v137 v138 v139 v140 v141 v142 v143 v144 v145 v146 v147 v148 v149 v150 v151 v152 v153 v154 v155 v156 v157 v158 v159 v160 v161 v162 v163 v164 v165 v166 v167 v168 v169 v170 v171 v172 v173 v174 v175 v176 v177 v178 v179 v180 v181 v182 v183 v184 v185 v186 v187 v188 v189 v190 v191 v192 v193 v194 v195 v196 v197 v198 v199 v200 v201 v202 v203 v204 wx, OnceC w wx c D i v6 → K { tmps := #[u0, u1, v2, .pointer (some ⟨c, 0, none⟩), .pointer (some ⟨D, 0, none⟩), u5, v6, u7, .int .i64 (p : Nat), .int .i64 a, v10, v11, v12, v13, v14, v15, v16, u17, u18, u19, u20, u21, u22, u23, u24, u25, u26, u27, u28, u29, u30, u31, u32, u33, u34, u35, u36, u37, u38, u39, u40, u41, u42, u43, u44, u45, u46, u47, u48, u49, u50, u51, u52, u53, .int .i64 t, v55, v56, v57, v58, v59, v60, v61, v62, v63, v64, v65, v66, v67, v68, v69, v70, v71, v72, v73, v74, v75, v76, v77, v78, v79, v80, v81, v82, v83, v84, v85, v86, v87, v88, v89, v90, v91, v92, v93, v94, v95, v96, v97, v98, v99, v100, v101, v102, v103, v104, v105, v106, v107, v108, v109, v110, v111, v112, v113, v114, v115, v116, v117, v118, v119, v120, v121, v122, v123, v124, v125, v126, v127, v128, v129, v130, v131, v132, v133, v134, v135, v136, v137, v138, v139, v140, v141, v142, v143, v144, v145, v146, v147, v148, v149, v150, v151, v152, v153, v154, v155, v156, v157, v158, v159, v160, v161, v162, v163, v164, v165, v166, v167, v168, v169, v170, v171, v172, v173, v174, v175, v176, v177, v178, v179, v180, v181, v182, v183, v184, v185, v186, v187, v188, v189, v190, v191, v192, v193, v194, v195, v196, v197, v198, v199, v200, v201, v202, v203, v204], defers := [] } wx) :
    Code.wp Try.prog code (Exit.inBlock 3 (Exit.then K Q)) { tmps := #[u0, u1, u2, .pointer (some ⟨c, 0, none⟩), .pointer (some ⟨D, 0, none⟩), u5, .int .i64 now, u7, .int .i64 (p : Nat), .int .i64 a, u10, u11, u12, u13, u14, u15, u16, u17, u18, u19, u20, u21, u22, u23, u24, u25, u26, u27, u28, u29, u30, u31, u32, u33, u34, u35, u36, u37, u38, u39, u40, u41, u42, u43, u44, u45, u46, u47, u48, u49, u50, u51, u52, u53, .int .i64 t, u55, u56, u57, u58, u59, u60, u61, u62, u63, u64, u65, u66, u67, u68, u69, u70, u71, u72, u73, u74, u75, u76, u77, u78, u79, u80, u81, u82, u83, u84, u85, u86, u87, u88, u89, u90, u91, u92, u93, u94, u95, u96, u97, u98, u99, u100, u101, u102, u103, u104, u105, u106, u107, u108, u109, u110, u111, u112, u113, u114, u115, u116, u117, u118, u119, u120, u121, u122, u123, u124, u125, u126, u127, u128, u129, u130, u131, u132, u133, u134, u135, u136, u137, u138, u139, u140, u141, u142, u143, u144, u145, u146, u147, u148, u149, u150, u151, u152, u153, u154, u155, u156, u157, u158, u159, u160, u161, u162, u163, u164, u165, u166, u167, u168, u169, u170, u171, u172, u173, u174, u175, u176, u177, u178, u179, u180, u181, u182, u183, u184, u185, u186, u187, u188, u189, u190, u191, u192, u193, u194, u195, u196, u197, u198, u199, u200, u201, u202, u203, u204], defers := [] } w4 := by
  refine code_is hcode rfl ?_
  have O4 : Hid (OnC w w4 c D n P now T T ∧ n ≤ i ∧ i < 80) := ⟨hO, hni, hi⟩
  have HK : Hid (∀ v2 v6 v10 v11 v12 v13 v14 v15 v16 v55 v56 v57 v58 v59 v60 v61 v62 v63 v64 v65 v66 v67 v68 v69 v70 v71 v72 v73 v74 v75 v76 v77 v78 v79 v80 v81 v82 v83 v84 v85 v86 v87 v88 v89 v90 v91 v92 v93 v94 v95 v96 v97 v98 v99 v100 v101 v102 v103 v104 v105 v106 v107 v108 v109 v110 v111 v112 v113 v114 v115 v116 v117 v118 v119 v120 v121 v122 v123 v124 v125 v126 v127 v128 v129 v130 v131 v132 v133 v134 v135 v136 v137 v138 v139 v140 v141 v142 v143 v144 v145 v146 v147 v148 v149 v150 v151 v152 v153 v154 v155 v156 v157 v158 v159 v160 v161 v162 v163 v164 v165 v166 v167 v168 v169 v170 v171 v172 v173 v174 v175 v176 v177 v178 v179 v180 v181 v182 v183 v184 v185 v186 v187 v188 v189 v190 v191 v192 v193 v194 v195 v196 v197 v198 v199 v200 v201 v202 v203 v204 wx, OnceC w wx c D i v6 → K { tmps := #[u0, u1, v2, .pointer (some ⟨c, 0, none⟩), .pointer (some ⟨D, 0, none⟩), u5, v6, u7, .int .i64 (p : Nat), .int .i64 a, v10, v11, v12, v13, v14, v15, v16, u17, u18, u19, u20, u21, u22, u23, u24, u25, u26, u27, u28, u29, u30, u31, u32, u33, u34, u35, u36, u37, u38, u39, u40, u41, u42, u43, u44, u45, u46, u47, u48, u49, u50, u51, u52, u53, .int .i64 t, v55, v56, v57, v58, v59, v60, v61, v62, v63, v64, v65, v66, v67, v68, v69, v70, v71, v72, v73, v74, v75, v76, v77, v78, v79, v80, v81, v82, v83, v84, v85, v86, v87, v88, v89, v90, v91, v92, v93, v94, v95, v96, v97, v98, v99, v100, v101, v102, v103, v104, v105, v106, v107, v108, v109, v110, v111, v112, v113, v114, v115, v116, v117, v118, v119, v120, v121, v122, v123, v124, v125, v126, v127, v128, v129, v130, v131, v132, v133, v134, v135, v136, v137, v138, v139, v140, v141, v142, v143, v144, v145, v146, v147, v148, v149, v150, v151, v152, v153, v154, v155, v156, v157, v158, v159, v160, v161, v162, v163, v164, v165, v166, v167, v168, v169, v170, v171, v172, v173, v174, v175, v176, v177, v178, v179, v180, v181, v182, v183, v184, v185, v186, v187, v188, v189, v190, v191, v192, v193, v194, v195, v196, v197, v198, v199, v200, v201, v202, v203, v204], defers := [] } wx) := hK
  have hpi : (p : Int) < 12 := by omega
  clear hcode hO hni hK
  have HD : Hid (∀ W, Upd [] w4 W → Calls Try.prog 7 #[.pointer (some ⟨c, 0, none⟩), .int .i64 a] W fun e w' => ∃ v ys, e = .returned (.tuple #[v, .bool true]) ∧ AR w' W.heap.size v ys ∧ Due T (now + a) ys ∧ D < W.heap.size ∧ OnC w w' c D n P (now + a) (tickT T (now + a)) T) := fun W hW => on_tick (O4.out.1.upd hW) (by have := O4.out; omega) ht0 (by omega)
  have HT : Hid ((∀ x t, T x = some t → 0 ≤ t) ∧ (∀ x, T x ≠ none → 0 ≤ x ∧ x < 12)) := ⟨fun x t h => (O4.out.1.own.ck.rng x t h).1, O4.out.1.dom⟩
  have hwr : IntKind.i64.wrap (now + a) = now + a := IntWalk.i64_in _ ⟨by omega, by omega⟩
  have HW4 : Hid (n ≤ i) := O4.out.2.1
  clear O4
  go_upto_if 73 with fail
  go_cut [73] from 73 to 75 (fun s73 wx => s73 = .bool true ∧ wx = w4)
  case first =>
    rcases ht with rfl | rfl
    · go_wp2_with fail
      go_meet
      case rel => exact ⟨rfl, rfl⟩
    · go_wp2_with fail
      go_meet
      case rel => exact ⟨rfl, rfl⟩
  case rest =>
    obtain ⟨rfl, hw⟩ := hcut
    rw [hw]
    clear hw ht
    go_wp2_with fail
    refine Calls.mono (HD.out w4 (Upd.refl _ _)) ?_
    rintro e w6 ⟨v, ys, rfl, hA, hdue, hDl, o⟩
    obtain ⟨pv, cv, hvf⟩ := hA.form
    subst hvf
    obtain ⟨m', hm'⟩ : ∃ m', m' = now + a := ⟨_, rfl⟩
    rw [← hm'] at hdue o hwr
    have H6 : Hid (OnC w w6 c D n P m' (tickT T m') T ∧ AR w6 w4.heap.size (.slice pv ys.length cv) ys ∧ D < w4.heap.size) := ⟨o, hA, hDl⟩
    have HY : Hid (Due T m' ys) := hdue
    have hyl : ys.length ≤ 9223372036854775807 := hA.le
    have hmm : now + a = m' := hm'.symm
    have hm0 : 0 ≤ m' := by omega
    have hm1 : m' ≤ 63 * (i + 1 : Nat) := by omega
    clear HD hA hdue o hDl hm'
    go_wp2_with fail
    refine Calls.mono (now_any H6.out.1.own.ck) ?_
    rintro e w7 ⟨rfl, hw7⟩
    rw [hw7]
    clear hw7 w7
    go_wp2_with fail
    go_loopw [12, 13] (fun s12 s13 wx => ∃ k ct : Nat, k ≤ 12 ∧ s13 = .int .i64 (k : Nat) ∧ s12 = .int .i64 (ct : Nat) ∧ ct = (List.range k).countP (isDue T m') ∧ wx = w6) (fun _ s13 _ => 12 - (intOf s13).toNat)
    case atStart => exact ⟨0, 0, by omega, rfl, rfl, rfl, rfl⟩
    case round =>
      obtain ⟨k, ct, hk, rfl, rfl, hct, hw⟩ := hrel
      rw [hw]
      clear hw
      have hck : ct ≤ k := by rw [hct]; exact Nat.le_trans List.countP_le_length (by simp)
      have HC : Hid (ct = (List.range k).countP (isDue T m')) := hct
      clear hct
      by_cases hk12 : k < 12
      · have j1 : (k : Int) < 12 := by omega
        cases hTk : T k with
        | none =>
          have hdv : dv T k = -1 := by unfold dv; rw [hTk]; rfl
          have q0 : w6.cell? ⟨D, k, none⟩ = some (.int .i64 (-1)) := H6.out.1.due.at hk12 hdv
          have HI : Hid (isDue T m' k = false) := by show _ = _; unfold isDue; rw [hdv]; rfl
          clear hTk hdv
          go_wp2_with fail
          go_roundw
          case rel => exact ⟨k + 1, ct, by omega, by go_num, rfl, by rw [count_snoc, ← HC.out, HI.out]; rfl, trivial⟩
          case measure => simp [intOf]; omega
        | some t =>
          have hdv : dv T k = t := by unfold dv; rw [hTk]; rfl
          have ht0 := HT.out.1 k t hTk
          have q0 : w6.cell? ⟨D, k, none⟩ = some (.int .i64 t) := H6.out.1.due.at hk12 hdv
          by_cases htm : t ≤ m'
          · have dt : decide (t ≤ m') = true := by simpa using htm
            have d0 : decide (0 ≤ t) = true := by simpa using ht0
            have HI : Hid (isDue T m' k = true) := by show _ = _; unfold isDue; rw [hdv, dt, d0]; rfl
            clear hTk hdv
            go_wp2_with fail
            go_roundw
            case rel => exact ⟨k + 1, ct + 1, by omega, by go_num, by go_num, by rw [count_snoc, ← HC.out, HI.out]; rfl, trivial⟩
            case measure => simp [intOf]; omega
          · have dt : decide (t ≤ m') = false := by simpa using htm
            have d0 : decide (0 ≤ t) = true := by simpa using ht0
            have HI : Hid (isDue T m' k = false) := by show _ = _; unfold isDue; rw [hdv, dt, d0]; rfl
            clear hTk hdv
            go_wp2_with fail
            go_roundw
            case rel => exact ⟨k + 1, ct, by omega, by go_num, rfl, by rw [count_snoc, ← HC.out, HI.out]; rfl, trivial⟩
            case measure => simp [intOf]; omega
      · obtain rfl : k = 12 := by omega
        obtain rfl : ct = ys.length := by rw [HC.out]; exact due_count HY.out HT.out.1 HT.out.2
        clear hck
        go_upto_block 7 with fail
        refine loop_told (w4 := w4) _ (by kernel_rfl) ⟨H6.out.1, H6.out.2.1⟩ HY.out HT.out ?_
        intro v2 v14 v15 v110 v111 v112 v113 v114 v115 v116 v117 v118 v119 v120 v121 v122 v123 v124 v125 v126 v127 v128 v129 v130 v131 v132 v133 v134 v135 v136 v137 v138 v139 v140 v141 v142 v143 v144 v145 v146 v147 v148 v149 v150 v151 v152 v153 v154 v155 v156 v157 v158 v159 v160 v161 v162 v163 v164 v165 v166 v167 v168 v169 v170 v171 v172 v173 v174 v175 v176 v177 wr hU
        have HU : Hid (Upd [] w6 wr) := hU
        clear hU
        have H7 : Hid (OnC w wr c D n P m' (tickT T m') (dropL T (ys.take 0)) ∧ Upd [D] w6 wr) := ⟨(H6.out.1.upd HU.out).conv (fun q hq => by rw [List.take_zero, dropL_nil]), HU.out.os, HU.out.tape, HU.out.output, HU.out.size, fun x hx hn => HU.out.block x hx (by simp)⟩
        have jt : ((ys.length : Int) == (ys.length : Int)) = true := by simp
        clear HU
        go_wp2_with fail
        go_loopw [16] (fun s16 wx => ∃ k : Nat, k ≤ ys.length ∧ s16 = .int .i64 (k : Nat) ∧ OnC w wx c D n P m' (tickT T m') (dropL T (ys.take k)) ∧ Upd [D] w6 wx) (fun s16 _ => ys.length - (intOf s16).toNat)
        case atStart => exact ⟨0, by omega, rfl, H7.out⟩
        case round =>
          obtain ⟨k, hky, rfl, o, hU⟩ := hrel
          have HU : Hid (OnC w wr c D n P m' (tickT T m') (dropL T (ys.take k)) ∧ Upd [D] w6 wr) := ⟨o, hU⟩
          clear o hU H7
          by_cases hlk : k < ys.length
          · have j1 : (k : Int) < (ys.length : Int) := by omega
            obtain ⟨bt, ot, ct', e1, t0⟩ := (H6.out.2.1.mono HU.out.2.toP (fun x hx => Or.inl (by have h1 := H6.out.2.2; have h2 : x = D := (by simpa using hx); omega))).cell hlk
            simp only [Value.slice.injEq] at e1
            obtain ⟨rfl, _, rfl⟩ := e1
            obtain ⟨q, t, hyq, hq12, _, _, _, _⟩ := due_at HY.out HT.out.1 HT.out.2 hlk
            rw [List.getD_eq_getElem?_getD, List.getElem?_eq_getElem hlk, Option.getD_some, hyq] at t0
            have hqi : (q : Int) < 12 := by omega
            have hq0 : ¬ (q : Int) < 0 := by omega
            have qd : wr.cell? ⟨D, q, none⟩ = some (.int .i64 (dv (dropL T (ys.take k)) q)) := HU.out.1.due.cell hq12
            have f1 : wr.frozen? ⟨D, q, none⟩ = false := HU.out.1.due.free q
            have HF : Hid (OnC w (wr.setCell ⟨D, q, none⟩ (.int .i64 (-1))) c D n P m' (tickT T m') (dropL T (ys.take (k + 1))) ∧ Upd [D] w6 (wr.setCell ⟨D, q, none⟩ (.int .i64 (-1)))) := ⟨by
              rw [List.take_succ_eq_append_getElem hlk]
              exact HU.out.1.store (-1) (dropL_in _ hyq).symm (fun r hr => dropL_out _ hyq hr), HU.out.2.setCell (p := ⟨D, q, none⟩) (Or.inr (by simp)) _⟩
            have hkm : (k : Int) + 1 ≤ 9223372036854775807 := by omega
            clear hyq
            go_wp2_with fail
            go_roundw
            case rel => exact ⟨k + 1, by omega, by go_num, HF.out⟩
            case measure => simp [intOf]; omega
          · obtain rfl : k = ys.length := by omega
            have HF : Hid (OnC w wr c D n P m' (tickT T m') (tickT T m')) := by
              have h := HU.out.1
              rw [List.take_length, drop_tick HY.out] at h
              exact h
            go_wp2_with fail
            (try simp only [Exit.inBlock, Exit.then])
            apply HK.out
            exact ⟨n, P, m', tickT T m', by have := HW4.out; omega, rfl, hm0, hm1, HF.out⟩

end Go.Proofs.Ytpdmdcnangldcaa
