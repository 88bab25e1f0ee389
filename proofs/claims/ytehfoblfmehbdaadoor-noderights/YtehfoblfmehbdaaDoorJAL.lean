/- The reference's guarded, comp. -/
import Derived.Test.YtehfoblfmehbdaaDoorJAK

namespace Go.Proofs.YtehfoblfmehbdaaDoor
open Go.RowKit

/-- A clause's guards. -/
def gdK : Nd → Bool
  | .mk _ _ _ _ [_, .mk _ _ _ _ G, _] => decide (0 < G.length)
  | _ => false
theorem clB_three {p : Int} {t : Nd} (h : clB p t = true) : ∃ k s num pos x y z, t = .mk k s num pos [x, y, z] := by
  obtain ⟨k, s, num, pos, K⟩ := t
  rw [clB, Bool.and_eq_true, Bool.and_eq_true] at h
  by_cases h3 : K.length = 3
  · match K, h3 with
    | [x, y, z], _ => exact ⟨k, s, num, pos, x, y, z, rfl⟩
  · rw [clK_no p K h3] at h
    exact absurd h.2.2 (by simp)

set_option maxHeartbeats 1000000 in
set_option maxRecDepth 100000 in
theorem rguarded (d : Nat) (w : World) (a : Option Addr) (c : Nat) (K : List Nd) (hK : RowN (NIn w d) w a K) (hz : nszs K ≤ 20000) (p : Int) (hcl : ∀ t ∈ K, clB p t = true) :
    Calls Tryd.prog 52 #[.slice a K.length c] w fun e w' => e = .returned (.bool (K.all gdK)) ∧ Upd [] w w' := by
  have hl : K.length ≤ 20000 := Nat.le_trans (nszs_len K) hz
  have HK : Hid (RowN (NIn w d) w a K) := hK
  have HCL : Hid (∀ t ∈ K, clB p t = true) := hcl
  have HZ : Hid (nszs K ≤ 20000) := hz
  clear hK hz hcl
  go_enter Tryd.func52, Tryd.ntmps52
  go_wp2
  go_loopw [3] (fun i wr => ∃ k : Nat, k ≤ K.length ∧ i = .int .i64 k ∧ (∀ j (h : j < K.length), j < k → gdK K[j] = true) ∧ Upd [] w wr) (fun i _ => K.length - (intOf i).toNat)
  case atStart => exact ⟨0, Nat.zero_le _, rfl, fun j _ hj => by omega, Upd.refl _ _⟩
  case round =>
    obtain ⟨k, hk, rfl, hy, hU⟩ := hrel
    have HY : Hid (∀ j (h : j < K.length), j < k → gdK K[j] = true) := hy
    clear hy
    by_cases hlt : k < K.length
    · have i1 : (k : Int) < (K.length : Int) := by omega
      rcases HK.out.imp hU (NIn.mono hU d) with h1 | ⟨b, o, rfl, hb, hc⟩
      · rw [h1] at hlt; simp at hlt
      obtain ⟨cs, hl5, hcell, hin⟩ := hc k hlt
      have hzk := Nat.le_trans (nszs_get K k hlt) HZ.out
      obtain ⟨kk, s, num, pos, x, y, z, hkk⟩ := clB_three (HCL.out K[k] (List.getElem_mem hlt))
      rw [hkk] at hin hzk
      have HKK : Hid (K[k] = .mk kk s num pos [x, y, z]) := hkk
      cases d with
      | zero => exact hin.elim
      | succ d =>
      obtain ⟨a1, c1, rfl, hrow, -⟩ := hin
      obtain ⟨b1, o1, rfl, hb1, q0, q1, q2, q3, q4, p0, p1, p2, p3, p4, u0, u1, u2, u3, u4, nx, ny, nz, hcell1⟩ := row_three hrow
      obtain ⟨ky, sy, numy, posy, Ky⟩ := y
      cases d with
      | zero => exact ny.elim
      | succ d =>
      obtain ⟨ay, cy, ey, -, -⟩ := ny
      simp only [List.cons.injEq, and_true] at ey
      obtain ⟨rfl, rfl, rfl, rfl, rfl⟩ := ey
      have hly : Ky.length ≤ 20000 := by
        simp only [nsz] at hzk
        have h1 := Nat.le_trans (nszs_get [x, .mk ky sy numy posy Ky, z] 1 (by simp)) hzk
        simp only [List.getElem_cons_succ, List.getElem_cons_zero, nsz] at h1
        exact Nat.le_trans (nszs_len Ky) h1
      have x4 : wr.cell? ⟨b, o + k * 5 + 4, none⟩ = some (.slice (some ⟨b1, o1, none⟩) 3 c1) := hcell 4 (by omega)
      have y4 : wr.cell? ⟨b1, o1 + 5 + 4, none⟩ = some (.slice ay Ky.length cy) := hcell1 9 (by omega)
      have y4' : wr.cell? ⟨b1, o1 + 9, none⟩ = some (.slice ay Ky.length cy) := hcell1 9 (by omega)
      have HU : Hid (Upd [] w wr) := hU
      have HG : Hid (gdK K[k] = decide (0 < Ky.length)) := by show gdK K[k] = _; rw [HKK.out]; rfl
      clear hc hcell hU hb hb1 hrow hcell1 nx nz hzk hkk HKK
      by_cases h0 : Ky.length = 0
      · have h0' : ((Ky.length : Int) == 0) = true := by simp [h0]
        have HF : Hid (K.all gdK = false) := by
          show K.all gdK = false
          rw [List.all_eq_false]
          refine ⟨K[k], List.getElem_mem hlt, ?_⟩
          rw [HG.out, decide_eq_false (by omega)]
          simp
        clear HY HCL h0 HG
        go_wp2
        go_ret
        exact ⟨ret_boolN HF.out.symm, HU.out⟩
      · have h0' : ((Ky.length : Int) == 0) = false := by simp; intro h; exact h0 (by rw [h]; rfl)
        have HG2 : Hid (gdK K[k] = true) := by show gdK K[k] = true; rw [HG.out]; exact decide_eq_true (by omega)
        clear HG h0
        go_wp2
        go_roundw
        case rel => exact ⟨k + 1, by omega, by go_num, fun j h hj => by
          by_cases e : j = k
          · subst e; exact HG2.out
          · exact HY.out j h (by omega), HU.out⟩
        case measure => simp [intOf]; omega
    · have hd : decide ((k : Int) < (K.length : Int)) = false := by simp; omega
      have HA : Hid (K.all gdK = true) := by
        show K.all gdK = true
        rw [List.all_eq_true]
        intro x hx
        obtain ⟨j, hj, rfl⟩ := List.getElem_of_mem hx
        exact HY.out j hj (by omega)
      clear HY HK HCL
      go_wp2
      go_ret
      exact ⟨ret_boolN HA.out.symm, hU⟩

/-- A comprehension's generator. -/
def gnB : Nd → Bool
  | .mk k s num pos K => k == 18 && (plB s num pos && (decide (K.length = 2) && K.all (isB 0)))
/-- The reference's comp. -/
def cmP (i : Nat) (t : Nd) : Bool := (decide (0 < i) && gnB t) || isB 0 t

set_option maxHeartbeats 2000000 in
set_option maxRecDepth 100000 in
theorem rcomp (d : Nat) (ih : ItS d) (w : World) (a : Option Addr) (c : Nat) (K : List Nd) (hK : RowN (NIn w d) w a K) (hz : nszs K ≤ 20000) (hx : nxzs K ≤ 1000000) :
    Calls Tryd.prog 55 #[.slice a K.length c] w fun e w' => e = .returned (.bool (decide (∀ i (h : i < K.length), cmP i K[i] = true) && decide (2 ≤ K.length))) ∧ Upd [] w w' := by
  have hl : K.length ≤ 20000 := Nat.le_trans (nszs_len K) hz
  have HK : Hid (RowN (NIn w d) w a K) := hK
  have IH : Hid (ItS d) := ih
  have HZ : Hid (nszs K ≤ 20000 ∧ nxzs K ≤ 1000000) := ⟨hz, hx⟩
  obtain ⟨R, hR⟩ : ∃ R, R = (decide (∀ i (h : i < K.length), cmP i K[i] = true) && decide (2 ≤ K.length)) := ⟨_, rfl⟩
  rw [← hR]
  have HR : Hid (R = _) := hR
  clear hK hz hx ih hR
  go_enter Tryd.func55, Tryd.ntmps55
  go_wp2
  go_loopw [3] (fun i wr => ∃ k : Nat, k ≤ K.length ∧ i = .int .i64 k ∧ (∀ j (h : j < K.length), j < k → cmP j K[j] = true) ∧ Upd [] w wr) (fun i _ => K.length - (intOf i).toNat)
  case atStart => exact ⟨0, Nat.zero_le _, rfl, fun j _ hj => by omega, Upd.refl _ _⟩
  case round =>
    obtain ⟨k, hk, rfl, hy, hU⟩ := hrel
    have HY : Hid (∀ j (h : j < K.length), j < k → cmP j K[j] = true) := hy
    clear hy
    by_cases hlt : k < K.length
    · have i1 : (k : Int) < (K.length : Int) := by omega
      rcases HK.out.imp hU (NIn.mono hU d) with h1 | ⟨b, o, rfl, hb, hc⟩
      · rw [h1] at hlt; simp at hlt
      obtain ⟨cs, hl5, hcell, hin⟩ := hc k hlt
      have hzk := Nat.le_trans (nszs_get K k hlt) HZ.out.1
      have hxk := Nat.le_trans (nxzs_get K k hlt) HZ.out.2
      have HN : Hid (∀ W, Upd [] wr W → Calls Tryd.prog 25 #[.agg cs.toArray] W fun e w' => e = .returned (.bool (isB 0 K[k])) ∧ Upd [] W w') := fun W hu => IH.out W cs K[k] (NIn.mono hu _ _ _ hin) hzk hxk
      obtain ⟨t, ht⟩ : ∃ t, t = K[k] := ⟨_, rfl⟩
      have HT : Hid (t = K[k]) := ht
      rw [← ht] at hin hzk hxk HN
      obtain ⟨kk, s, num, pos, J⟩ := t
      obtain ⟨aj, cj, rfl, hJ, -⟩ := NIn.more _ _ _ hin
      simp only [nsz] at hzk
      simp only [nxz] at hxk
      have hlj : J.length ≤ 20000 := Nat.le_trans (nszs_len J) hzk
      have HI : Hid (∀ W, Upd [] wr W → Calls Tryd.prog 48 #[.slice aj J.length cj, .int .i64 0] W fun e w' => e = .returned (.bool (J.all (isB 0))) ∧ Upd [] W w') := fun W hu => ritems d IH.out W aj cj J (hJ.imp hu (NIn.mono hu d)) hzk (by omega)
      have HP : Hid (∀ W, Calls Tryd.prog 57 #[.agg #[.int .u8 kk, .string s, .int .i64 num, .int .i64 pos, .slice aj J.length cj]] W fun e w' => e = .returned (.bool (plB s num pos)) ∧ Upd [] W w') := fun W => rplain _ kk s num pos W
      have HMC : Hid (∀ W, Upd [] wr W → ∀ j, j < 5 → W.cell? ⟨b, o + k * 5 + j, none⟩ = [Value.int .u8 kk, .string s, .int .i64 num, .int .i64 pos, .slice aj J.length cj][j]?) := fun W hu j hj => by
        rw [Nat.add_assoc]
        exact (hu.cell (p := ⟨b, o + (k * 5 + j), none⟩) hb (by simp)).trans (hcell j hj)
      have HCM : Hid (cmP k K[k] = ((decide (0 < k) && (kk == 18 && (plB s num pos && (decide (J.length = 2) && J.all (isB 0))))) || isB 0 (.mk kk s num pos J))) := by show cmP k K[k] = _; rw [← HT.out]; rfl
      have HU : Hid (Upd [] w wr) := hU
      generalize isB 0 (.mk kk s num pos J) = zi at HN HCM
      generalize J.all (isB 0) = za at HI HCM
      generalize plB s num pos = zp at HP HCM
      clear hc hcell hin hU hb hJ hzk hxk ht HT
      have x0 : wr.cell? ⟨b, o + k * 5, none⟩ = some (.int .u8 kk) := HMC.out wr (Upd.refl _ _) 0 (by omega)
      have x1 : wr.cell? ⟨b, o + k * 5 + 1, none⟩ = some (.string s) := HMC.out wr (Upd.refl _ _) 1 (by omega)
      have x2 : wr.cell? ⟨b, o + k * 5 + 2, none⟩ = some (.int .i64 num) := HMC.out wr (Upd.refl _ _) 2 (by omega)
      have x3 : wr.cell? ⟨b, o + k * 5 + 3, none⟩ = some (.int .i64 pos) := HMC.out wr (Upd.refl _ _) 3 (by omega)
      have x4 : wr.cell? ⟨b, o + k * 5 + 4, none⟩ = some (.slice aj J.length cj) := HMC.out wr (Upd.refl _ _) 4 (by omega)
      by_cases h0 : (0 : Int) < (k : Int)
      · have h0k : decide (0 < k) = true := decide_eq_true (by omega)
        cases h1 : (kk == 18) with
        | false =>
          have HG : Hid (cmP k K[k] = zi) := by show cmP k K[k] = zi; rw [HCM.out]; rw [h1]; simp
          clear HCM HP HI
          go_wp2_with fail
          refine (HN.out _ (Upd.refl [] wr)).mono ?_
          rintro e w9 ⟨rfl, hu9⟩
          have HU9 : Hid (Upd [] w w9) := (HU.out.trans (Upd.refl [] wr)).trans hu9
          clear hu9 x0 x1 x2 x3 x4
          cases zi with
          | true =>
            go_wp2
            go_roundw
            case rel => exact ⟨k + 1, by omega, by go_num, fun j h hj => by
              by_cases e : j = k
              · subst e; exact HG.out
              · exact HY.out j h (by omega), HU9.out⟩
            case measure => simp [intOf]; omega
          | false =>
            have HF : Hid (R = false) := by
              show R = false
              rw [HR.out, decide_eq_false (p := ∀ i (h : i < K.length), cmP i K[i] = true) (fun h => by have := h k hlt; rw [HG.out] at this; cases this), Bool.false_and]
            clear HR HY HK IH HZ
            go_wp2
            go_ret
            exact ⟨ret_boolN HF.out.symm, HU9.out⟩
        | true =>
          go_wp2_with fail
          refine (HP.out _).mono ?_
          rintro e w1 ⟨rfl, hu⟩
          have HU1 : Hid (Upd [] wr w1) := hu
          clear hu x0 x1 x2 x3 x4
          have y0 : w1.cell? ⟨b, o + k * 5, none⟩ = some (.int .u8 kk) := HMC.out w1 HU1.out 0 (by omega)
          have y1 : w1.cell? ⟨b, o + k * 5 + 1, none⟩ = some (.string s) := HMC.out w1 HU1.out 1 (by omega)
          have y2 : w1.cell? ⟨b, o + k * 5 + 2, none⟩ = some (.int .i64 num) := HMC.out w1 HU1.out 2 (by omega)
          have y3 : w1.cell? ⟨b, o + k * 5 + 3, none⟩ = some (.int .i64 pos) := HMC.out w1 HU1.out 3 (by omega)
          have y4 : w1.cell? ⟨b, o + k * 5 + 4, none⟩ = some (.slice aj J.length cj) := HMC.out w1 HU1.out 4 (by omega)
          cases zp with
          | false =>
            have HG : Hid (cmP k K[k] = zi) := by show cmP k K[k] = zi; rw [HCM.out]; simp
            clear HCM HP HI
            go_wp2_with fail
            refine (HN.out _ HU1.out).mono ?_
            rintro e w9 ⟨rfl, hu9⟩
            have HU9 : Hid (Upd [] w w9) := (HU.out.trans HU1.out).trans hu9
            clear hu9 y0 y1 y2 y3 y4
            cases zi with
            | true =>
              go_wp2
              go_roundw
              case rel => exact ⟨k + 1, by omega, by go_num, fun j h hj => by
                by_cases e : j = k
                · subst e; exact HG.out
                · exact HY.out j h (by omega), HU9.out⟩
              case measure => simp [intOf]; omega
            | false =>
              have HF : Hid (R = false) := by
                show R = false
                rw [HR.out, decide_eq_false (p := ∀ i (h : i < K.length), cmP i K[i] = true) (fun h => by have := h k hlt; rw [HG.out] at this; cases this), Bool.false_and]
              clear HR HY HK IH HZ
              go_wp2
              go_ret
              exact ⟨ret_boolN HF.out.symm, HU9.out⟩
          | true =>
            by_cases h2 : J.length = 2
            · have h2b : ((J.length : Int) == 2) = true := by simp [h2]
              have h2c : decide (J.length = 2) = true := decide_eq_true h2
              clear h2
              go_wp2_with fail
              refine (HI.out _ HU1.out).mono ?_
              rintro e w2 ⟨rfl, hu⟩
              have HU2 : Hid (Upd [] wr w2) := HU1.out.trans hu
              clear hu y0 y1 y2 y3 y4
              have y0 : w2.cell? ⟨b, o + k * 5, none⟩ = some (.int .u8 kk) := HMC.out w2 HU2.out 0 (by omega)
              have y1 : w2.cell? ⟨b, o + k * 5 + 1, none⟩ = some (.string s) := HMC.out w2 HU2.out 1 (by omega)
              have y2 : w2.cell? ⟨b, o + k * 5 + 2, none⟩ = some (.int .i64 num) := HMC.out w2 HU2.out 2 (by omega)
              have y3 : w2.cell? ⟨b, o + k * 5 + 3, none⟩ = some (.int .i64 pos) := HMC.out w2 HU2.out 3 (by omega)
              have y4 : w2.cell? ⟨b, o + k * 5 + 4, none⟩ = some (.slice aj J.length cj) := HMC.out w2 HU2.out 4 (by omega)
              cases za with
              | false =>
                have HG : Hid (cmP k K[k] = zi) := by show cmP k K[k] = zi; rw [HCM.out]; simp
                clear HCM HP HI
                go_wp2_with fail
                refine (HN.out _ HU2.out).mono ?_
                rintro e w9 ⟨rfl, hu9⟩
                have HU9 : Hid (Upd [] w w9) := (HU.out.trans HU2.out).trans hu9
                clear hu9 y0 y1 y2 y3 y4
                cases zi with
                | true =>
                  go_wp2
                  go_roundw
                  case rel => exact ⟨k + 1, by omega, by go_num, fun j h hj => by
                    by_cases e : j = k
                    · subst e; exact HG.out
                    · exact HY.out j h (by omega), HU9.out⟩
                  case measure => simp [intOf]; omega
                | false =>
                  have HF : Hid (R = false) := by
                    show R = false
                    rw [HR.out, decide_eq_false (p := ∀ i (h : i < K.length), cmP i K[i] = true) (fun h => by have := h k hlt; rw [HG.out] at this; cases this), Bool.false_and]
                  clear HR HY HK IH HZ
                  go_wp2
                  go_ret
                  exact ⟨ret_boolN HF.out.symm, HU9.out⟩
              | true =>
                have HG : Hid (cmP k K[k] = true) := by show cmP k K[k] = true; rw [HCM.out, h0k, h1, h2c]; rfl
                clear HCM HP HI HN y0 y1 y2 y3 y4
                go_wp2
                go_roundw
                case rel => exact ⟨k + 1, by omega, by go_num, fun j h hj => by
                  by_cases e : j = k
                  · subst e; exact HG.out
                  · exact HY.out j h (by omega), HU.out.trans HU2.out⟩
                case measure => simp [intOf]; omega
            · have h2b : ((J.length : Int) == 2) = false := by simp; omega
              have h2c : decide (J.length = 2) = false := decide_eq_false h2
              clear h2
              have HG : Hid (cmP k K[k] = zi) := by show cmP k K[k] = zi; rw [HCM.out]; rw [h2c]; simp
              clear HCM HP HI
              go_wp2_with fail
              refine (HN.out _ HU1.out).mono ?_
              rintro e w9 ⟨rfl, hu9⟩
              have HU9 : Hid (Upd [] w w9) := (HU.out.trans HU1.out).trans hu9
              clear hu9 y0 y1 y2 y3 y4
              cases zi with
              | true =>
                go_wp2
                go_roundw
                case rel => exact ⟨k + 1, by omega, by go_num, fun j h hj => by
                  by_cases e : j = k
                  · subst e; exact HG.out
                  · exact HY.out j h (by omega), HU9.out⟩
                case measure => simp [intOf]; omega
              | false =>
                have HF : Hid (R = false) := by
                  show R = false
                  rw [HR.out, decide_eq_false (p := ∀ i (h : i < K.length), cmP i K[i] = true) (fun h => by have := h k hlt; rw [HG.out] at this; cases this), Bool.false_and]
                clear HR HY HK IH HZ
                go_wp2
                go_ret
                exact ⟨ret_boolN HF.out.symm, HU9.out⟩
      · have h0d : decide ((0 : Int) < (k : Int)) = false := decide_eq_false h0
        have h0k : decide (0 < k) = false := decide_eq_false (by omega)
        have HG : Hid (cmP k K[k] = zi) := by show cmP k K[k] = zi; rw [HCM.out]; rw [h0k]; simp
        clear HCM HP HI
        go_wp2_with fail
        refine (HN.out _ (Upd.refl [] wr)).mono ?_
        rintro e w9 ⟨rfl, hu9⟩
        have HU9 : Hid (Upd [] w w9) := (HU.out.trans (Upd.refl [] wr)).trans hu9
        clear hu9 x0 x1 x2 x3 x4
        cases zi with
        | true =>
          go_wp2
          go_roundw
          case rel => exact ⟨k + 1, by omega, by go_num, fun j h hj => by
            by_cases e : j = k
            · subst e; exact HG.out
            · exact HY.out j h (by omega), HU9.out⟩
          case measure => simp [intOf]; omega
        | false =>
          have HF : Hid (R = false) := by
            show R = false
            rw [HR.out, decide_eq_false (p := ∀ i (h : i < K.length), cmP i K[i] = true) (fun h => by have := h k hlt; rw [HG.out] at this; cases this), Bool.false_and]
          clear HR HY HK IH HZ
          go_wp2
          go_ret
          exact ⟨ret_boolN HF.out.symm, HU9.out⟩
    · have hd : decide ((k : Int) < (K.length : Int)) = false := by simp; omega
      have HA : Hid (R = decide (2 ≤ K.length)) := by
        show R = _
        rw [HR.out, decide_eq_true (p := ∀ i (h : i < K.length), cmP i K[i] = true) (fun j hj => HY.out j hj (by omega)), Bool.true_and]
      clear HY HK HR HZ IH
      by_cases h2 : (2 : Int) ≤ (K.length : Int)
      · rw [decide_eq_true (p := 2 ≤ K.length) (by omega)] at HA
        go_wp2
        go_ret
        exact ⟨ret_boolN HA.out.symm, hU⟩
      · have h2' : decide ((2 : Int) ≤ (K.length : Int)) = false := by simp; omega
        rw [decide_eq_false (p := 2 ≤ K.length) (by omega)] at HA
        go_wp2
        go_ret
        exact ⟨ret_boolN HA.out.symm, hU⟩

end Go.Proofs.YtehfoblfmehbdaaDoor

/- The reference's blocks and clauses are what has the roles: mathematics. -/
namespace Go.Proofs.YtehfoblfmehbdaaDoor
open Go.RowKit

theorem formAt_nin (r k : Int) (hr : r ≠ 17) (h : (formsL.all fun f => f.ro != r || f.kd != k) = true) : formAt k r = none := by
  refine formAt_no k r fun f hf => ?_
  have hrr : rr k r = r := by unfold rr; rw [if_neg (fun h => hr h.1)]
  rw [hrr]
  have h1 := (List.all_eq_true.1 h) f hf
  cases h2 : (f.ro == r) with
  | false => rfl
  | true =>
    rw [bne, h2] at h1
    simpa [bne] using h1
/-- A block with so many items at least, at most. -/
theorem isB_blk (r : Int) (le : Nat) (ks : List Int) (mo : Bool) (_hr : r ≠ 17) (hf : formAt 19 r = some ⟨r, 19, le, ks, mo⟩) (hn : ∀ k : Int, k ≠ 19 → formAt k r = none) (k : Int) (s : ByteArray) (num pos : Int) (K : List Nd) :
    isB r (.mk k s num pos K) = (k == 19 && (plB s num pos && (kidsN ⟨r, 19, le, ks, mo⟩ K.length && isR ks K))) := by
  by_cases h : k = 19
  · subst h
    rw [isB_eq r 19 s num pos K _ hf, fld19]
    cases plB s num pos <;> cases kidsN ⟨r, 19, le, ks, mo⟩ K.length <;> cases isR ks K <;> rfl
  · rw [isB_none r k s num pos K (hn k h)]
    have h1 : (k == 19) = false := by simpa using h
    rw [h1, Bool.false_and]
theorem none_of (r : Int) (hr : r ≠ 17) (k : Int) (h : ∀ f ∈ formsL, f.ro = r → f.kd ≠ k) : formAt k r = none := by
  refine formAt_nin r k hr (List.all_eq_true.2 fun f hf => ?_)
  by_cases h1 : f.ro = r
  · have := h f hf h1
    simp [this]
  · simp [h1]
theorem kinds_of (r : Int) (L : List Int) (h : (formsL.all fun f => f.ro != r || L.contains f.kd) = true) (k : Int) (hk : k ∉ L) : ∀ f ∈ formsL, f.ro = r → f.kd ≠ k := by
  intro f hf hr hk2
  have h1 := (List.all_eq_true.1 h) f hf
  rw [hr] at h1
  simp at h1
  exact hk (hk2 ▸ h1)
theorem only19 (r : Int) (hr : r ≠ 17) (h : (formsL.all fun f => f.ro != r || [(19 : Int)].contains f.kd) = true) (k : Int) (hk : k ≠ 19) : formAt k r = none := none_of r hr k (kinds_of r [19] h k (by simpa using hk))
theorem only20 (r : Int) (hr : r ≠ 17) (h : (formsL.all fun f => f.ro != r || [(20 : Int)].contains f.kd) = true) (k : Int) (hk : k ≠ 20) : formAt k r = none := none_of r hr k (kinds_of r [20] h k (by simpa using hk))
theorem is4 (t : Nd) : isB 4 t = blkB 0 t := by
  obtain ⟨k, s, num, pos, K⟩ := t
  rw [isB_blk 4 0 [0] true (by decide) rfl (only19 4 (by decide) (by decide)), isR_one, blkB]
  simp [kidsN]
theorem is5 (t : Nd) : isB 5 t = (blkB 0 t && decide (t.kids.length = 1)) := by
  obtain ⟨k, s, num, pos, K⟩ := t
  rw [isB_blk 5 1 [0] false (by decide) rfl (only19 5 (by decide) (by decide)), isR_one, blkB, Nd.kids]
  by_cases h : K.length = 1
  · simp [kidsN, h]
  · have h1 : kidsN ⟨5, 19, 1, [0], false⟩ K.length = false := by
      simp [kidsN]; omega
    rw [h1, decide_eq_false h]
    simp
theorem is6 (t : Nd) : isB 6 t = (blkB 0 t && decide (t.kids.length = 0)) := by
  obtain ⟨k, s, num, pos, K⟩ := t
  rw [isB_blk 6 0 [] false (by decide) rfl (only19 6 (by decide) (by decide)), blkB, Nd.kids]
  by_cases h : K.length = 0
  · have h0 := List.eq_nil_of_length_eq_zero h
    subst h0
    simp [kidsN, isR]
  · have h1 : kidsN ⟨6, 19, 0, [], false⟩ K.length = false := by
      simp [kidsN]; intro h2; exact h (by rw [h2]; rfl)
    rw [h1, decide_eq_false h]
    simp
theorem is7 (t : Nd) : isB 7 t = ((t.kd == 19 && plB t.tx t.num t.pos) && t.kids.all (blkB 1)) := by
  obtain ⟨k, s, num, pos, K⟩ := t
  rw [isB_blk 7 0 [3] true (by decide) rfl (only19 7 (by decide) (by decide)), isR_one, Nd.kids, Nd.kd, Nd.tx, Nd.num, Nd.pos]
  have h : (isB 3 : Nd → Bool) = blkB 1 := funext fun x => (blk3 x).symm
  rw [h]
  simp [kidsN, Bool.and_assoc]
theorem is8 (t : Nd) : isB 8 t = (isB 7 t && decide (0 < t.kids.length)) := by
  obtain ⟨k, s, num, pos, K⟩ := t
  rw [isB_blk 8 1 [3] true (by decide) rfl (only19 8 (by decide) (by decide)), isB_blk 7 0 [3] true (by decide) rfl (only19 7 (by decide) (by decide)), Nd.kids]
  simp only [kidsN, Bool.or_true, Bool.and_true, Nat.zero_le, decide_true, Bool.true_and]
  rw [show decide (1 ≤ K.length) = decide (0 < K.length) from rfl]
  cases (k == 19) <;> cases plB s num pos <;> cases isR [3] K <;> cases decide (0 < K.length) <;> rfl

end Go.Proofs.YtehfoblfmehbdaaDoor
