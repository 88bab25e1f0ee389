/- TermTexts, walked. -/
import Derived.Test.YtplkcegdmlfhcaaDoorJM
import Derived.Test.YtplkcegdmlfhcaaDoorPlnL
namespace Go.Proofs.YtplkcegdmlfhcaaDoor
open Go.RowKit

mutual
/-- Of right terms, the two words for plain are one. -/
theorem plU_pl : ∀ t : Tm, okT' t = true → plU t = true → plT t = true
  | .mk k num neg L s I T, h, p => by
    rw [okT', Bool.and_eq_true, Bool.and_eq_true] at h
    rw [plU, Bool.and_eq_true, Bool.and_eq_true] at p
    rw [plT, plV_pl I h.1.2 p.2.1, plV_pl T h.2 p.2.2]
    have hk := p.1
    rcases okF_kind h.1.1 with rfl | rfl | rfl | rfl | rfl | rfl | rfl
    · rfl
    · rfl
    · simp at hk
    · simp at hk
    · simp at hk
    · rfl
    · rfl
theorem plV_pl : ∀ I : List Tm, okR I = true → plV I = true → plR I = true
  | [], _, _ => by rw [plR]
  | t :: r, h, p => by
    rw [okR, Bool.and_eq_true] at h
    rw [plV, Bool.and_eq_true] at p
    rw [plR, plU_pl t h.1 p.1, plV_pl r h.2 p.2]
    rfl
end
theorem txS_vis (t : Tm) : ∀ c ∈ txS t, visB c = true := by
  intro c hc
  unfold txS at hc
  cases hok : okS t with
  | true => rw [hok, if_pos rfl] at hc; exact tx_vis t (okS_ok hok) c hc
  | false => rw [hok, if_neg (by decide)] at hc; simp at hc

set_option maxHeartbeats 16000000 in
set_option maxRecDepth 100000 in
theorem Texts_walk (w : World) (d : Nat) (t0 t1 : Tm) (q0 q1 q2 q3 q4 q5 q6 p0 p1 p2 p3 p4 p5 p6 : Value) (hG : Glb w) (iA : In w d [q0, q1, q2, q3, q4, q5, q6] t0) (iB : In w d [p0, p1, p2, p3, p4, p5, p6] t1) (z0 : tsz t0 ≤ 1353245080330) (z1 : tsz t1 ≤ 1353245080330) :
    Calls Tryd.prog 5 #[.agg #[q0, q1, q2, q3, q4, q5, q6], .agg #[p0, p1, p2, p3, p4, p5, p6]] w fun e w' => e = .returned (.bool true) ∧ Upd [] w w' := by
  obtain ⟨o0, ho0⟩ : ∃ o, okS t0 = o := ⟨_, rfl⟩
  obtain ⟨o1, ho1⟩ : ∃ o, okS t1 = o := ⟨_, rfl⟩
  obtain ⟨u0, hu0⟩ : ∃ o, plU t0 = o := ⟨_, rfl⟩
  obtain ⟨u1, hu1⟩ : ∃ o, plU t1 = o := ⟨_, rfl⟩
  obtain ⟨sm, hsm⟩ : ∃ o, samS t0 t1 = o := ⟨_, rfl⟩
  obtain ⟨s0, hs0⟩ : ∃ s, s = str (txS t0) := ⟨_, rfl⟩
  obtain ⟨s1, hs1⟩ : ∃ s, s = str (txS t1) := ⟨_, rfl⟩
  have R0 : Hid (∀ W, Upd [] w W → Calls Tryd.prog 8 #[.agg #[q0, q1, q2, q3, q4, q5, q6]] W fun e w' => e = .returned (.bool o0) ∧ Upd [] W w') := fun W hu => right_call (In.mono hu _ _ _ iA) z0 ho0
  have R1 : Hid (∀ W, Upd [] w W → Calls Tryd.prog 8 #[.agg #[p0, p1, p2, p3, p4, p5, p6]] W fun e w' => e = .returned (.bool o1) ∧ Upd [] W w') := fun W hu => right_call (In.mono hu _ _ _ iB) z1 ho1
  have P0 : Hid (∀ W, Upd [] w W → Calls Tryd.prog 17 #[.agg #[q0, q1, q2, q3, q4, q5, q6]] W fun e w' => e = .returned (.bool u0) ∧ Upd [] W w') := fun W hu => by rw [← hu0]; exact Pl_all d W _ t0 (In.mono hu _ _ _ iA) z0
  have P1 : Hid (∀ W, Upd [] w W → Calls Tryd.prog 17 #[.agg #[p0, p1, p2, p3, p4, p5, p6]] W fun e w' => e = .returned (.bool u1) ∧ Upd [] W w') := fun W hu => by rw [← hu1]; exact Pl_all d W _ t1 (In.mono hu _ _ _ iB) z1
  have S01 : Hid (∀ W, Upd [] w W → Calls Tryd.prog 10 #[.agg #[q0, q1, q2, q3, q4, q5, q6], .agg #[p0, p1, p2, p3, p4, p5, p6]] W fun e w' => e = .returned (.bool sm) ∧ Upd [] W w') := fun W hu => same_call (In.mono hu _ _ _ iA) (In.mono hu _ _ _ iB) z0 z1 hsm
  have X0 : Hid (∀ W, Upd [] w W → Calls Tryd.prog 16 #[.agg #[q0, q1, q2, q3, q4, q5, q6]] W fun e w' => e = .returned (.string s0) ∧ Upd [] W w') := fun W hu => by rw [hs0]; exact TText_any d W _ t0 (In.mono hu _ _ _ iA) z0 (hG.mono hu)
  have X1 : Hid (∀ W, Upd [] w W → Calls Tryd.prog 16 #[.agg #[p0, p1, p2, p3, p4, p5, p6]] W fun e w' => e = .returned (.string s1) ∧ Upd [] W w') := fun W hu => by rw [hs1]; exact TText_any d W _ t1 (In.mono hu _ _ _ iB) z1 (hG.mono hu)
  have GR : Hid (∀ W g, Upd [] w W → Tb W g #[q0, q1, q2, q3, q4, q5, q6, p0, p1, p2, p3, p4, p5, p6] → Calls Tryd.prog 7 #[.slice (some ⟨g, 0, none⟩) 2 2] W fun e w' => IsBool e ∧ Upd [] W w') := fun W g hu hT => great_in d W _ 2 [t0, t1] (row_two hT (In.mono hu _ _ _ iA) (In.mono hu _ _ _ iB)) (tszs_le _ _ (by simp) (fun i hi => by
    have : i = 0 ∨ i = 1 := by simp at hi; omega
    rcases this with rfl | rfl
    · exact z0
    · exact z1))
  have d0 := In.dig _ _ _ iA
  have d1 := In.dig _ _ _ iB
  have VS : Hid (∀ k (hk : k < s0.size), 32 ≤ s0[k].toNat ∧ s0[k].toNat ≤ 126) := fun k hk => by
    subst hs0
    have h1 : (str (txS t0))[k] ∈ txS t0 := List.getElem_mem (by rw [str_size] at hk; exact hk)
    have h2 := txS_vis t0 _ h1
    unfold visB at h2
    exact of_decide_eq_true h2
  have hem : (s0.size = 0) = (o0 = false) := by
    subst hs0
    rw [str_size, ← ho0]
    unfold txS
    cases hok : okS t0 with
    | true => simp [tx_some t0 (okS_ok hok)]
    | false => simp
  have hlen : s0.size ≤ 140737488355328 := by
    rw [hs0, str_size]
    unfold txS
    cases hok : okS t0 with
    | true => rw [if_pos rfl]; exact tx_short t0 hok d0
    | false => simp
  have SE : Hid (o0 = true → o1 = true → u0 = true → u1 = true → (s0.toList == s1.toList) = sm) := fun a b c e => by
    rw [beq_str, hs0, hs1, byt_str, byt_str, ← hsm]
    unfold txS samS
    rw [ho0, ho1, a, b, if_pos rfl, if_pos rfl, Bool.eq_iff_iff]
    have k0 := okS_ok (ho0.trans a)
    have k1 := okS_ok (ho1.trans b)
    have key := txT_one t0 t1 k0 k1 d0 d1 (plU_pl t0 k0 (hu0.trans c)) (plU_pl t1 k1 (hu1.trans e))
    simp only [beq_iff_eq, Bool.true_and, key]
    constructor
    · rintro rfl; exact ordT_self t0 k0
    · exact ordT_zero t0 t1 k0 k1 d0 d1
  have HG : Hid (Glb w) := hG
  clear iA iB z0 z1 hG ho0 ho1 hu0 hu1 hsm hs0 hs1 d0 d1
  have TA : Hid (Tb ((w.alloc (.cells #[q0, q1, q2, q3, q4, q5, q6] 26)).alloc (.cells #[p0, p1, p2, p3, p4, p5, p6] 26)) w.heap.size #[q0, q1, q2, q3, q4, q5, q6]) := (Tb.new _ _ _ rfl).old _
  have TB : Hid (Tb ((w.alloc (.cells #[q0, q1, q2, q3, q4, q5, q6] 26)).alloc (.cells #[p0, p1, p2, p3, p4, p5, p6] 26)) (w.heap.size + 1) #[p0, p1, p2, p3, p4, p5, p6]) := Tb.new _ _ _ (by simp)
  have HU0 : Hid (Upd [] w ((w.alloc (.cells #[q0, q1, q2, q3, q4, q5, q6] 26)).alloc (.cells #[p0, p1, p2, p3, p4, p5, p6] 26))) := ((Upd.refl [] w).alloc _).alloc _
  go_enter Tryd.func5, Tryd.ntmps5
  go_wp2_with fail
  refine Calls.mono (awake_any _ (HG.out.mono HU0.out)) ?_
  rintro e w1 ⟨rfl, h1⟩
  have U1 : Hid (Upd [] w w1) := HU0.out.trans h1
  have A1 := TA.out.mono h1 (by simp)
  have B1 := TB.out.mono h1 (by simp)
  clear h1 TA TB HU0
  go_wp2_with (first | (refine load_G _ _ rfl _ _ rfl A1 rfl rfl ?_) | (refine load_G _ _ rfl _ _ rfl B1 rfl rfl ?_) | fail)
  refine Calls.mono (GR.out _ _ (U1.out.alloc _) (Tb.new _ _ _ rfl)) ?_
  rintro e v1 ⟨⟨g, rfl⟩, h2⟩
  have hv : Upd [] w1 v1 := Upd.trans ((Upd.refl [] w1).alloc _) h2
  have UV : Hid (Upd [] w v1) := U1.out.trans hv
  have A5 := A1.mono hv (by simp)
  have B5 := B1.mono hv (by simp)
  have V1 : Hid (Upd [] w1 v1) := hv
  clear h2 hv A1 B1 U1 GR HG
  cases g with
  | true =>
    go_wp2
    go_ret
    exact ⟨rfl, UV.out⟩
  | false =>
    have HS : Hid (∀ w', Upd [] v1 w' → w'.cell? ⟨w.heap.size, 0, none⟩ = some (q0) ∧ w'.cell? ⟨w.heap.size, 1, none⟩ = some (q1) ∧ w'.cell? ⟨w.heap.size, 2, none⟩ = some (q2) ∧ w'.cell? ⟨w.heap.size, 3, none⟩ = some (q3) ∧ w'.cell? ⟨w.heap.size, 4, none⟩ = some (q4) ∧ w'.cell? ⟨w.heap.size, 5, none⟩ = some (q5) ∧ w'.cell? ⟨w.heap.size, 6, none⟩ = some (q6) ∧ w'.cell? ⟨w.heap.size + 1, 0, none⟩ = some (p0) ∧ w'.cell? ⟨w.heap.size + 1, 1, none⟩ = some (p1) ∧ w'.cell? ⟨w.heap.size + 1, 2, none⟩ = some (p2) ∧ w'.cell? ⟨w.heap.size + 1, 3, none⟩ = some (p3) ∧ w'.cell? ⟨w.heap.size + 1, 4, none⟩ = some (p4) ∧ w'.cell? ⟨w.heap.size + 1, 5, none⟩ = some (p5) ∧ w'.cell? ⟨w.heap.size + 1, 6, none⟩ = some (p6)) := fun w' hu => ⟨(A5.mono hu (by simp)).cell 0, (A5.mono hu (by simp)).cell 1, (A5.mono hu (by simp)).cell 2, (A5.mono hu (by simp)).cell 3, (A5.mono hu (by simp)).cell 4, (A5.mono hu (by simp)).cell 5, (A5.mono hu (by simp)).cell 6, (B5.mono hu (by simp)).cell 0, (B5.mono hu (by simp)).cell 1, (B5.mono hu (by simp)).cell 2, (B5.mono hu (by simp)).cell 3, (B5.mono hu (by simp)).cell 4, (B5.mono hu (by simp)).cell 5, (B5.mono hu (by simp)).cell 6⟩
    have UC : Hid (Upd [] v1 v1) := Upd.refl [] v1
    have TA : Hid (Tb v1 w.heap.size #[q0, q1, q2, q3, q4, q5, q6]) := A5
    have TB : Hid (Tb v1 (w.heap.size + 1) #[p0, p1, p2, p3, p4, p5, p6]) := B5
    clear A5 B5
    go_wp2_with fail
    go_region_held3 (fun w' => w'.cell? ⟨w.heap.size, 0, none⟩ = some (q0) ∧ w'.cell? ⟨w.heap.size, 1, none⟩ = some (q1) ∧ w'.cell? ⟨w.heap.size, 2, none⟩ = some (q2) ∧ w'.cell? ⟨w.heap.size, 3, none⟩ = some (q3) ∧ w'.cell? ⟨w.heap.size, 4, none⟩ = some (q4) ∧ w'.cell? ⟨w.heap.size, 5, none⟩ = some (q5) ∧ w'.cell? ⟨w.heap.size, 6, none⟩ = some (q6) ∧ w'.cell? ⟨w.heap.size + 1, 0, none⟩ = some (p0) ∧ w'.cell? ⟨w.heap.size + 1, 1, none⟩ = some (p1) ∧ w'.cell? ⟨w.heap.size + 1, 2, none⟩ = some (p2) ∧ w'.cell? ⟨w.heap.size + 1, 3, none⟩ = some (p3) ∧ w'.cell? ⟨w.heap.size + 1, 4, none⟩ = some (p4) ∧ w'.cell? ⟨w.heap.size + 1, 5, none⟩ = some (p5) ∧ w'.cell? ⟨w.heap.size + 1, 6, none⟩ = some (p6))
      (first | exact HS.out _ UC.out | exact HS.out _ UC.out.drew)
      (first
          | (go_at_call 16; (have _ := V2); go_loud (refine Calls.mono (X1.out _ (UV.out.trans (Upd.trans UC.out (by repeat (first | exact Upd.refl _ _ | refine Upd.drew ?_ | refine Upd.alloc ?_ _))))) ?_); rintro e v3 ⟨rfl, h3⟩; have V3 : Hid (Upd [] v2 v3) := Upd.trans (by repeat (first | exact Upd.refl _ _ | refine Upd.drew ?_ | refine Upd.alloc ?_ _)) h3; have UC : Hid (Upd [] v1 v3) := UC.out.trans V3.out; clear h3)
          | (go_at_call 16; (have _ := V1); go_loud (refine Calls.mono (X0.out _ (UV.out.trans (Upd.trans UC.out (by repeat (first | exact Upd.refl _ _ | refine Upd.drew ?_ | refine Upd.alloc ?_ _))))) ?_); rintro e v2 ⟨rfl, h2⟩; have V2 : Hid (Upd [] v1 v2) := Upd.trans (by repeat (first | exact Upd.refl _ _ | refine Upd.drew ?_ | refine Upd.alloc ?_ _)) h2; have UC : Hid (Upd [] v1 v2) := UC.out.trans V2.out; clear h2))
    have A3 := TA.out.mono UC.out (by simp)
    have B3 := TB.out.mono UC.out (by simp)
    have U3 : Hid (Upd [] w v3) := UV.out.trans UC.out
    clear HS UC UV V1 V2 V3 X0 X1 TA TB
    go_wp2
    go_loop [7] (fun i => ∃ k : Nat, k ≤ s0.size ∧ i = .int .i64 k) (fun i => s0.size - (intOf i).toNat)
    case atStart => exact ⟨0, Nat.zero_le _, rfl⟩
    case round =>
      obtain ⟨k, hk, rfl⟩ := hrel
      by_cases hlt : k < s0.size
      · have hv := VS.out k hlt
        have e1 : decide ((s0[k].toNat : Int) < 32) = false := by simp; omega
        have e2 : decide ((126 : Int) < (s0[k].toNat : Int)) = false := by simp; omega
        clear hv
        go_wp2
        go_round
        case rel => exact ⟨k + 1, by omega, by go_num⟩
        case measure => simp [intOf]; omega
      · have hd : decide ((k : Int) < s0.size) = false := by simp; omega
        go_wp2_with (first | (refine load_G _ _ rfl _ _ rfl A3 rfl rfl ?_) | fail)
        refine Calls.mono (R0.out _ U3.out) ?_
        rintro e w4 ⟨rfl, h4⟩
        have A4 := A3.mono h4 (by simp)
        have B4 := B3.mono h4 (by simp)
        have U4 : Hid (Upd [] w w4) := U3.out.trans h4
        have hE := empty_of s0
        clear h4 A3 B3 U3 hd hlt hk
        cases o0 with
        | false =>
          have h0 : s0.size = 0 := by rw [hem]
          rw [decide_eq_true h0] at hE
          clear h0 hem SE VS
          go_wp2_with (first | (refine load_G _ _ rfl _ _ rfl A4 rfl rfl ?_) | fail)
          refine Calls.mono (P0.out _ U4.out) ?_
          rintro e w5 ⟨rfl, h5⟩
          have A5 := A4.mono h5 (by simp)
          have B5 := B4.mono h5 (by simp)
          have U5 : Hid (Upd [] w w5) := U4.out.trans h5
          clear h5 A4 B4 U4
          cases u0 with
          | false =>
            go_wp2
            go_ret
            exact ⟨rfl, U5.out⟩
          | true =>
            go_wp2_with (first | (refine load_G _ _ rfl _ _ rfl A5 rfl rfl ?_) | (refine load_G _ _ rfl _ _ rfl B5 rfl rfl ?_) | fail)
            refine Calls.mono (P1.out _ U5.out) ?_
            rintro e w6 ⟨rfl, h6⟩
            have A6 := A5.mono h6 (by simp)
            have B6 := B5.mono h6 (by simp)
            have U6 : Hid (Upd [] w w6) := U5.out.trans h6
            clear h6 A5 B5 U5
            cases u1 with
            | false =>
              go_wp2
              go_ret
              exact ⟨rfl, U6.out⟩
            | true =>
              go_wp2_with (first | (refine load_G _ _ rfl _ _ rfl A6 rfl rfl ?_) | (refine load_G _ _ rfl _ _ rfl B6 rfl rfl ?_) | fail)
              refine Calls.mono (R0.out _ U6.out) ?_
              rintro e w7 ⟨rfl, h7⟩
              have U7 : Hid (Upd [] w w7) := U6.out.trans h7
              go_wp2
              go_ret
              exact ⟨rfl, U7.out⟩
        | true =>
          have h0 : ¬ s0.size = 0 := by rw [hem]; decide
          rw [decide_eq_false h0] at hE
          clear h0 hem VS
          go_wp2_with (first | (refine load_G _ _ rfl _ _ rfl A4 rfl rfl ?_) | fail)
          refine Calls.mono (P0.out _ U4.out) ?_
          rintro e w5 ⟨rfl, h5⟩
          have A5 := A4.mono h5 (by simp)
          have B5 := B4.mono h5 (by simp)
          have U5 : Hid (Upd [] w w5) := U4.out.trans h5
          clear h5 A4 B4 U4
          cases u0 with
          | false =>
            go_wp2
            go_ret
            exact ⟨rfl, U5.out⟩
          | true =>
            go_wp2_with (first | (refine load_G _ _ rfl _ _ rfl A5 rfl rfl ?_) | (refine load_G _ _ rfl _ _ rfl B5 rfl rfl ?_) | fail)
            refine Calls.mono (P1.out _ U5.out) ?_
            rintro e w6 ⟨rfl, h6⟩
            have A6 := A5.mono h6 (by simp)
            have B6 := B5.mono h6 (by simp)
            have U6 : Hid (Upd [] w w6) := U5.out.trans h6
            clear h6 A5 B5 U5
            cases u1 with
            | false =>
              go_wp2
              go_ret
              exact ⟨rfl, U6.out⟩
            | true =>
              go_wp2_with (first | (refine load_G _ _ rfl _ _ rfl A6 rfl rfl ?_) | (refine load_G _ _ rfl _ _ rfl B6 rfl rfl ?_) | fail)
              refine Calls.mono (R0.out _ U6.out) ?_
              rintro e w7 ⟨rfl, h7⟩
              have A7 := A6.mono h7 (by simp)
              have B7 := B6.mono h7 (by simp)
              have U7 : Hid (Upd [] w w7) := U6.out.trans h7
              clear h7 A6 B6 U6
              go_wp2_with (first | (refine load_G _ _ rfl _ _ rfl A7 rfl rfl ?_) | (refine load_G _ _ rfl _ _ rfl B7 rfl rfl ?_) | fail)
              refine Calls.mono (R1.out _ U7.out) ?_
              rintro e w8 ⟨rfl, h8⟩
              have A8 := A7.mono h8 (by simp)
              have B8 := B7.mono h8 (by simp)
              have U8 : Hid (Upd [] w w8) := U7.out.trans h8
              clear h8 A7 B7 U7
              cases o1 with
              | false =>
                go_wp2
                go_ret
                exact ⟨rfl, U8.out⟩
              | true =>
                have he : (s0.toList == s1.toList) = sm := by have := SE.out; simpa using this
                clear SE
                go_wp2_with (first | (refine load_G _ _ rfl _ _ rfl A8 rfl rfl ?_) | (refine load_G _ _ rfl _ _ rfl B8 rfl rfl ?_) | fail)
                refine Calls.mono (S01.out _ U8.out) ?_
                rintro e w9 ⟨rfl, h9⟩
                have U9 : Hid (Upd [] w w9) := U8.out.trans h9
                cases sm
                all_goals
                  go_wp2
                  go_ret
                  exact ⟨rfl, U9.out⟩
end Go.Proofs.YtplkcegdmlfhcaaDoor
