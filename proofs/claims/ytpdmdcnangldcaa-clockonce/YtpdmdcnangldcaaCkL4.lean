/- ClockOnce: who is told, one by one. -/
import Derived.Test.YtpdmdcnangldcaaCkOf
import Derived.Deep.Cut
import Derived.Deep.CutRange
import Derived.Deep.DeepCutAuto
import Derived.Deep.CutBlock
import Derived.Deep.RegionHeld3
import Derived.BigQuiet
import Derived.Deep.QuietTactic
namespace Go.Proofs.Ytpdmdcnangldcaa
open Go.RowKit Go.Maps

set_option maxHeartbeats 8000000 in
set_option maxRecDepth 100000 in
theorem loop_told {w w4 w6 : World} {c D n : Nat} {m' : Int} {P : Nat → Prop} {T : TF} {ys : List Int} {pv : Option Addr} {cv : Nat} {Q : Exit → Act → World → Prop} {u0 u1 u2 u3 u5 u7 u8 u9 u11 u12 u13 u15 u16 u17 u18 u19 u20 u21 u22 u23 u24 u25 u26 u27 u28 u29 u30 u31 u32 u33 u34 u35 u36 u37 u38 u39 u40 u41 u42 u43 u44 u45 u46 u47 u48 u49 u50 u51 u52 u53 u54 u55 u56 u57 u58 u59 u60 u61 u62 u63 u64 u65 u66 u67 u68 u69 u70 u71 u72 u73 u74 u75 u76 u77 u78 u79 u80 u81 u82 u83 u84 u85 u86 u87 u88 u89 u90 u91 u92 u93 u94 u95 u96 u97 u98 u99 u100 u101 u102 u103 u104 u105 u106 u107 u108 u109 u110 u111 u112 u113 u114 u115 u116 u117 u118 u119 u120 u121 u122 u123 u124 u125 u126 u127 u128 u129 u130 u131 u132 u133 u134 u135 u136 u137 u138 u139 u140 u141 u142 u143 u144 u145 u146 u147 u148 u149 u150 u151 u152 u153 u154 u155 u156 u157 u158 u159 u160 u161 u162 u163 u164 u165 u166 u167 u168 u169 u170 u171 u172 u173 u174 u175 u176 u177 u178 u179 u180 u181 u182 u183 u184 u185 u186 u187 u188 u189 u190 u191 u192 u193 u194 u195 u196 u197 u198 u199 u200 u201 u202 u203 u204 : Value} (code : Code) (hcode : Try.f4.body.bind (findB 7) = some code)
    (h6 : OnC w w6 c D n P m' (tickT T m') T ∧ AR w6 w4.heap.size (.slice pv ys.length cv) ys) (hy : Due T m' ys) (ht : (∀ x t, T x = some t → 0 ≤ t) ∧ ∀ x, T x ≠ none → 0 ≤ x ∧ x < 12)
    (hK : ∀ v2 v14 v15 v110 v111 v112 v113 v114 v115 v116 v117 v118 v119 v120 v121 v122 v123 v124 v125 v126 v127 v128 v129 v130 v131 v132 v133 v134 v135 v136 v137 v138 v139 v140 v141 v142 v143 v144 v145 v146 v147 v148 v149 v150 v151 v152 v153 v154 v155 v156 v157 v158 v159 v160 v161 v162 v163 v164 v165 v166 v167 v168 v169 v170 v171 v172 v173 v174 v175 v176 v177 wx, Upd [] w6 wx → Q .normal { tmps := #[u0, u1, v2, u3, .pointer (some ⟨D, 0, none⟩), u5, .int .i64 m', u7, u8, u9, .slice pv ys.length cv, u11, u12, u13, v14, v15, u16, u17, u18, u19, u20, u21, u22, u23, u24, u25, u26, u27, u28, u29, u30, u31, u32, u33, u34, u35, u36, u37, u38, u39, u40, u41, u42, u43, u44, u45, u46, u47, u48, u49, u50, u51, u52, u53, u54, u55, u56, u57, u58, u59, u60, u61, u62, u63, u64, u65, u66, u67, u68, u69, u70, u71, u72, u73, u74, u75, u76, u77, u78, u79, u80, u81, u82, u83, u84, u85, u86, u87, u88, u89, u90, u91, u92, u93, u94, u95, u96, u97, u98, u99, u100, u101, u102, u103, u104, u105, u106, u107, u108, u109, v110, v111, v112, v113, v114, v115, v116, v117, v118, v119, v120, v121, v122, v123, v124, v125, v126, v127, v128, v129, v130, v131, v132, v133, v134, v135, v136, v137, v138, v139, v140, v141, v142, v143, v144, v145, v146, v147, v148, v149, v150, v151, v152, v153, v154, v155, v156, v157, v158, v159, v160, v161, v162, v163, v164, v165, v166, v167, v168, v169, v170, v171, v172, v173, v174, v175, v176, v177, u178, u179, u180, u181, u182, u183, u184, u185, u186, u187, u188, u189, u190, u191, u192, u193, u194, u195, u196, u197, u198, u199, u200, u201, u202, u203, u204], defers := [] } wx) :
    Code.wp Try.prog code Q { tmps := #[u0, u1, u2, u3, .pointer (some ⟨D, 0, none⟩), u5, .int .i64 m', u7, u8, u9, .slice pv ys.length cv, u11, u12, u13, .int .i64 0, u15, u16, u17, u18, u19, u20, u21, u22, u23, u24, u25, u26, u27, u28, u29, u30, u31, u32, u33, u34, u35, u36, u37, u38, u39, u40, u41, u42, u43, u44, u45, u46, u47, u48, u49, u50, u51, u52, u53, u54, u55, u56, u57, u58, u59, u60, u61, u62, u63, u64, u65, u66, u67, u68, u69, u70, u71, u72, u73, u74, u75, u76, u77, u78, u79, u80, u81, u82, u83, u84, u85, u86, u87, u88, u89, u90, u91, u92, u93, u94, u95, u96, u97, u98, u99, u100, u101, u102, u103, u104, u105, u106, u107, u108, u109, u110, u111, u112, u113, u114, u115, u116, u117, u118, u119, u120, u121, u122, u123, u124, u125, u126, u127, u128, u129, u130, u131, u132, u133, u134, u135, u136, u137, u138, u139, u140, u141, u142, u143, u144, u145, u146, u147, u148, u149, u150, u151, u152, u153, u154, u155, u156, u157, u158, u159, u160, u161, u162, u163, u164, u165, u166, u167, u168, u169, u170, u171, u172, u173, u174, u175, u176, u177, u178, u179, u180, u181, u182, u183, u184, u185, u186, u187, u188, u189, u190, u191, u192, u193, u194, u195, u196, u197, u198, u199, u200, u201, u202, u203, u204], defers := [] } w6 := by
  refine code_is hcode rfl ?_
  have H6 : Hid (OnC w w6 c D n P m' (tickT T m') T ∧ AR w6 w4.heap.size (.slice pv ys.length cv) ys ∧ True) := ⟨h6.1, h6.2, trivial⟩
  have HY : Hid (Due T m' ys) := hy
  have HT : Hid ((∀ x t, T x = some t → 0 ≤ t) ∧ ∀ x, T x ≠ none → 0 ≤ x ∧ x < 12) := ht
  have hyl : ys.length ≤ 9223372036854775807 := h6.2.le
  have HK : Hid (∀ v2 v14 v15 v110 v111 v112 v113 v114 v115 v116 v117 v118 v119 v120 v121 v122 v123 v124 v125 v126 v127 v128 v129 v130 v131 v132 v133 v134 v135 v136 v137 v138 v139 v140 v141 v142 v143 v144 v145 v146 v147 v148 v149 v150 v151 v152 v153 v154 v155 v156 v157 v158 v159 v160 v161 v162 v163 v164 v165 v166 v167 v168 v169 v170 v171 v172 v173 v174 v175 v176 v177 wx, Upd [] w6 wx → Q .normal { tmps := #[u0, u1, v2, u3, .pointer (some ⟨D, 0, none⟩), u5, .int .i64 m', u7, u8, u9, .slice pv ys.length cv, u11, u12, u13, v14, v15, u16, u17, u18, u19, u20, u21, u22, u23, u24, u25, u26, u27, u28, u29, u30, u31, u32, u33, u34, u35, u36, u37, u38, u39, u40, u41, u42, u43, u44, u45, u46, u47, u48, u49, u50, u51, u52, u53, u54, u55, u56, u57, u58, u59, u60, u61, u62, u63, u64, u65, u66, u67, u68, u69, u70, u71, u72, u73, u74, u75, u76, u77, u78, u79, u80, u81, u82, u83, u84, u85, u86, u87, u88, u89, u90, u91, u92, u93, u94, u95, u96, u97, u98, u99, u100, u101, u102, u103, u104, u105, u106, u107, u108, u109, v110, v111, v112, v113, v114, v115, v116, v117, v118, v119, v120, v121, v122, v123, v124, v125, v126, v127, v128, v129, v130, v131, v132, v133, v134, v135, v136, v137, v138, v139, v140, v141, v142, v143, v144, v145, v146, v147, v148, v149, v150, v151, v152, v153, v154, v155, v156, v157, v158, v159, v160, v161, v162, v163, v164, v165, v166, v167, v168, v169, v170, v171, v172, v173, v174, v175, v176, v177, u178, u179, u180, u181, u182, u183, u184, u185, u186, u187, u188, u189, u190, u191, u192, u193, u194, u195, u196, u197, u198, u199, u200, u201, u202, u203, u204], defers := [] } wx) := hK
  clear hcode h6 hy ht hK
  go_wp2_with fail
  go_loopw [14] (fun s14 wx => ∃ k : Nat, k ≤ ys.length ∧ s14 = .int .i64 (k : Nat) ∧ Upd [] w6 wx) (fun s14 _ => ys.length - (intOf s14).toNat)
  case atStart => exact ⟨0, by omega, rfl, Upd.refl _ _⟩
  case round =>
    obtain ⟨k, hky, rfl, hU⟩ := hrel
    have HU : Hid (Upd [] w6 wr) := hU
    clear hU
    by_cases hlk : k < ys.length
    · have j1 : (k : Int) < (ys.length : Int) := by omega
      have A6 := H6.out.2.1.upd HU.out
      have O6 := H6.out.1.upd HU.out
      obtain ⟨bt, ot, ct', e1, t0⟩ := A6.cell hlk
      simp only [Value.slice.injEq] at e1
      obtain ⟨rfl, _, rfl⟩ := e1
      obtain ⟨q, t, hyq, hq12, hdq, htp, htm, hTq⟩ := due_at HY.out HT.out.1 HT.out.2 hlk
      rw [List.getD_eq_getElem?_getD, List.getElem?_eq_getElem hlk, Option.getD_some, hyq] at t0
      have g0 : (bt : Nat) = bt := rfl
      have qd : wr.cell? ⟨D, q, none⟩ = some (.int .i64 t) := O6.due.at hq12 hdq
      have b1 : decide ((q : Int) < 0) = false := decide_eq_false (by omega)
      have b2 : decide (11 < (q : Int)) = false := decide_eq_false (by omega)
      have b3 : decide (t < 0) = false := decide_eq_false (by omega)
      have b4 : decide (m' < t) = false := decide_eq_false (by omega)
      have hqi : (q : Int) < 12 := by omega
      have hkm : (k : Int) + 1 ≤ 9223372036854775807 := by omega
      have HYQ : Hid (ys[k] = q ∧ T q = some t) := ⟨hyq, hTq⟩
      clear A6 O6 hdq hTq g0
      rcases Nat.eq_zero_or_pos k with rfl | hkp
      · have t0' : wr.cell? ⟨bt, ot, none⟩ = some (.int .i64 q) := t0
        clear hyq t0
        have b5 : decide ((0 : Int) < 0) = false := rfl
        have j1' : (0 : Int) < (ys.length : Int) := by omega
        go_upto_region 37 with fail
        go_quiet (fail)
        have HV : Hid (Upd [] w6 (wr.drewN nq)) := HU.out.drewN nq
        go_wp2_with fail
        go_roundw
        case rel => exact ⟨1, by omega, by go_num, HV.out⟩
        case measure => simp [intOf]; omega
      · obtain ⟨k1, hk1⟩ : ∃ k', k = k' + 1 := ⟨k - 1, by omega⟩
        clear hyq
        have hlk' : k1 < ys.length := by omega
        obtain ⟨bt', ot', ct'', e2, t1⟩ := (H6.out.2.1.upd HU.out).cell hlk'
        simp only [Value.slice.injEq, Option.some.injEq, Addr.mk.injEq] at e2
        obtain ⟨⟨rfl, rfl, _⟩, _, rfl⟩ := e2
        obtain ⟨q', s, hyq', hq12', hdq', hsp, hsm, hTq'⟩ := due_at HY.out HT.out.1 HT.out.2 hlk'
        rw [List.getD_eq_getElem?_getD, List.getElem?_eq_getElem hlk', Option.getD_some, hyq'] at t1
        have qd' : wr.cell? ⟨D, q', none⟩ = some (.int .i64 s) := (H6.out.1.upd HU.out).due.at hq12' hdq'
        have hnx : s < t ∨ s = t ∧ (q' : Int) < q := by
          subst hk1
          exact due_next HY.out hlk hyq' HYQ.out.1 hTq' HYQ.out.2
        have b5 : decide ((0 : Int) < (k : Int)) = true := decide_eq_true (by omega)
        have hsub2 : (k : Int) - 1 = (k1 : Int) := by omega
        have hsub : IntKind.i64.wrap ((k : Int) - 1) = (k1 : Int) := by rw [hsub2]; exact IntWalk.i64_in _ ⟨by omega, by omega⟩
        have hqi' : (q' : Int) < 12 := by omega
        have j2 : (k1 : Int) < (ys.length : Int) := by omega
        have HK1 : Hid (k = k1 + 1) := hk1
        have b6 : decide (t < s) = false := decide_eq_false (by omega)
        clear hyq' hTq' hdq' hk1
        by_cases hst : s = t
        · have b7 : decide ((q : Int) ≤ (q' : Int)) = false := decide_eq_false (by omega)
          have b9 : decide (q ≤ q') = false := decide_eq_false (by omega)
          have b10 : ¬ q ≤ q' := by omega
          have b8 : (s == t) = true := by simpa using hst
          clear hnx hst
          go_upto_region 37 with fail
          go_quiet (fail)
          have HV : Hid (Upd [] w6 (wr.drewN nq)) := HU.out.drewN nq
          go_wp2_with fail
          go_roundw
          case rel => exact ⟨k + 1, by omega, by go_num, HV.out⟩
          case measure => simp [intOf]; omega
        · have b8 : (s == t) = false := by simpa using hst
          clear hnx hst
          go_upto_region 37 with fail
          go_quiet (fail)
          have HV : Hid (Upd [] w6 (wr.drewN nq)) := HU.out.drewN nq
          go_wp2_with fail
          go_roundw
          case rel => exact ⟨k + 1, by omega, by go_num, HV.out⟩
          case measure => simp [intOf]; omega
    · obtain rfl : k = ys.length := by omega
      have HV : Hid (Upd [] w6 wr) := HU.out
      go_wp2_with fail
      (try simp only [Exit.inBlock, Exit.then])
      apply HK.out
      exact HV.out

end Go.Proofs.Ytpdmdcnangldcaa
