/- LintNumbers, walked. -/
import Derived.Test.YtbajgfoaakehbaaDoorLtY
namespace Go.Proofs.YtbajgfoaakehbaaDoor
open Go.RowKit

/-- The names that the statement goes through. -/
def nmL : List ByteArray := [⟨#[43]⟩, ⟨#[45]⟩, ⟨#[42]⟩, ⟨#[100, 105, 118]⟩, ⟨#[114, 101, 109]⟩, ⟨#[61, 61]⟩, ⟨#[47, 61]⟩, ⟨#[61, 58, 61]⟩, ⟨#[61, 47, 61]⟩, ⟨#[60]⟩, ⟨#[61, 60]⟩, ⟨#[62]⟩, ⟨#[62, 61]⟩, ⟨#[97, 110, 100]⟩, ⟨#[111, 114]⟩, ⟨#[120, 111, 114]⟩, ⟨#[110, 111, 116]⟩, ⟨#[97, 98, 115]⟩, ⟨#[104, 100]⟩, ⟨#[116, 108]⟩, ⟨#[108, 101, 110, 103, 116, 104]⟩, ⟨#[116, 117, 112, 108, 101, 95, 115, 105, 122, 101]⟩, ⟨#[105, 115, 95, 105, 110, 116, 101, 103, 101, 114]⟩, ⟨#[105, 115, 95, 97, 116, 111, 109]⟩, ⟨#[105, 115, 95, 116, 117, 112, 108, 101]⟩, ⟨#[105, 115, 95, 108, 105, 115, 116]⟩, ⟨#[105, 115, 95, 112, 105, 100]⟩, ⟨#[105, 115, 95, 114, 101, 102, 101, 114, 101, 110, 99, 101]⟩, ⟨#[105, 115, 95, 102, 117, 110, 99, 116, 105, 111, 110]⟩, ⟨#[105, 115, 95, 98, 111, 111, 108, 101, 97, 110]⟩, ⟨#[101, 108, 101, 109, 101, 110, 116]⟩, ⟨#[43, 43]⟩, ⟨#[45, 45]⟩, ⟨#[109, 97, 120]⟩, ⟨#[109, 105, 110]⟩, ⟨#[110, 116, 104]⟩, ⟨#[110, 116, 104, 116, 97, 105, 108]⟩, ⟨#[109, 101, 109, 98, 101, 114]⟩, ⟨#[115, 101, 113]⟩, ⟨#[115, 101, 116, 101, 108, 101, 109, 101, 110, 116]⟩, ⟨#[116, 117, 112, 108, 101, 95, 116, 111, 95, 108, 105, 115, 116]⟩, ⟨#[108, 105, 115, 116, 95, 116, 111, 95, 116, 117, 112, 108, 101]⟩, ⟨#[97, 116, 111, 109, 95, 116, 111, 95, 108, 105, 115, 116]⟩, ⟨#[108, 105, 115, 116, 95, 116, 111, 95, 97, 116, 111, 109]⟩, ⟨#[105, 110, 116, 101, 103, 101, 114, 95, 116, 111, 95, 108, 105, 115, 116]⟩, ⟨#[108, 105, 115, 116, 95, 116, 111, 95, 105, 110, 116, 101, 103, 101, 114]⟩, ⟨#[114, 101, 118, 101, 114, 115, 101]⟩, ⟨#[115, 117, 109]⟩, ⟨#[115, 111, 114, 116]⟩, ⟨#[117, 115, 111, 114, 116]⟩, ⟨#[108, 97, 115, 116]⟩, ⟨#[116, 104, 114, 111, 119]⟩, ⟨#[101, 114, 114, 111, 114]⟩, ⟨#[101, 120, 105, 116]⟩, ⟨#[115, 101, 108, 102]⟩, ⟨#[109, 97, 107, 101, 95, 114, 101, 102]⟩, ⟨#[110, 111, 119]⟩, ⟨#[115, 112, 97, 119, 110]⟩, ⟨#[115, 112, 97, 119, 110, 95, 108, 105, 110, 107]⟩, ⟨#[115, 112, 97, 119, 110, 95, 109, 111, 110, 105, 116, 111, 114]⟩, ⟨#[108, 105, 110, 107]⟩, ⟨#[117, 110, 108, 105, 110, 107]⟩, ⟨#[109, 111, 110, 105, 116, 111, 114]⟩, ⟨#[100, 101, 109, 111, 110, 105, 116, 111, 114]⟩, ⟨#[116, 114, 97, 112, 95, 101, 120, 105, 116]⟩, ⟨#[117, 110, 114, 101, 103, 105, 115, 116, 101, 114]⟩, ⟨#[119, 104, 101, 114, 101, 105, 115]⟩, ⟨#[112, 114, 105, 110, 116]⟩, ⟨#[33]⟩, ⟨#[114, 101, 103, 105, 115, 116, 101, 114]⟩, ⟨#[97, 110, 100, 97, 108, 115, 111]⟩, ⟨#[102]⟩, ⟨#[]⟩, ⟨#[32]⟩, ⟨#[104, 100, 32, 116, 108]⟩]
/-- How many of the first arities a name is built in at, from -1 on. -/
def cntA (s : ByteArray) : Nat → Nat
  | 0 => 0
  | j + 1 => cntA s j + (if kindS s ((j : Int) - 1) = 0 then 0 else 1)
def cntM : Nat → Nat
  | 0 => 0
  | k + 1 => cntM k + cntA (nmL.getD k ⟨#[]⟩) 6
theorem cnt_all : cntM 75 = 74 := by decide +kernel
theorem cntA_le (s : ByteArray) (j : Nat) : cntA s j ≤ j := by
  induction j with
  | zero => simp [cntA]
  | succ j ih => rw [cntA]; split <;> omega
theorem cntM_le (k : Nat) : cntM k ≤ 6 * k := by
  induction k with
  | zero => simp [cntM]
  | succ k ih => rw [cntM]; have := cntA_le (nmL.getD k ⟨#[]⟩) 6; omega
theorem nm_len : nmL.length = 75 := by decide +kernel
theorem via_world {P : World → Prop} {W : World} (w2 : World) (h : W = w2) (hp : P w2) : P W := h ▸ hp
theorem kindF_le (s : ByteArray) (a : Nat) : ∀ n k, kindF s a n k ≤ k + n
  | 0, _ => by simp [kindF]
  | n + 1, k => by rw [kindF]; split; · omega
                   · have := kindF_le s a n (k + 1); omega
theorem kindS_le (s : ByteArray) (a : Int) : kindS s a ≤ 4 := by
  unfold kindS
  split
  · omega
  · have := kindF_le s a.toNat 4 0; omega

set_option maxHeartbeats 4000000 in
set_option maxRecDepth 100000 in
theorem Numbers_walk (A : Nat → Option Addr) (C : Nat → Nat) (w : World) (hF : Frm A C w) (hO : Ops w) (hB : Blt w) : Calls Tryd.prog 4 #[] w fun e w' => e = .returned (.bool true) ∧ Upd [] w w' := by
  have HF : Hid (Frm A C w ∧ Ops w ∧ Blt w) := ⟨hF, hO, hB⟩
  clear hF hO hB
  go_enter Tryd.func4, Tryd.ntmps4
  go_wp2_with fail
  refine Calls.mono (awake_any A C w HF.out.1 HF.out.2.1 HF.out.2.2) ?_
  rintro e w1 ⟨rfl, U1⟩
  have V1 : Hid (Upd [] w w1) := U1
  clear U1
  go_wp2_with fail
  refine via_world (P := fun W => Code.wp _ _ _ _ W) (w1.alloc (.cells (nmL.map Value.string).toArray 9)) (by kernel_rfl) ?_
  obtain ⟨w2, hw2⟩ : ∃ w2, w2 = w1.alloc (.cells (nmL.map Value.string).toArray 9) := ⟨_, rfl⟩
  have V2 : Hid (Upd [] w w2) := by rw [hw2]; exact V1.out.alloc _
  have S2 : Hid (∀ i (hi : i < nmL.length), w2.cell? ⟨w1.heap.size, i, none⟩ = some (.string nmL[i])) := by
    intro i hi
    rw [hw2, cell_of_row _ _ i _ _ _ (heap_alloc_new w1 _)]
    simp [hi]
  have lw : w1.heap.size < w2.heap.size := by rw [hw2]; simp
  show Code.wp _ _ _ _ (w1.alloc (.cells (nmL.map Value.string).toArray 9))
  rw [← hw2]
  clear hw2 V1
  go_loopw [2, 3] (fun n i wr => ∃ k : Nat, k ≤ 75 ∧ i = .int .i64 k ∧ n = .int .i64 (cntM k : Nat) ∧ Upd [] w2 wr) (fun _ i _ => 75 - (intOf i).toNat)
  case atStart => exact ⟨0, Nat.zero_le _, rfl, rfl, Upd.refl [] w2⟩
  case round =>
    obtain ⟨k, hk, rfl, rfl, hu⟩ := hrel
    by_cases hlt : k < 75
    · have HU : Hid (Upd [] w2 wr) := hu
      have hkl : k < nmL.length := by rw [nm_len]; exact hlt
      obtain ⟨s, hs⟩ : ∃ s, s = nmL[k] := ⟨_, rfl⟩
      have C0 : Hid (∀ W, Upd [] w2 W → W.cell? ⟨w1.heap.size, k, none⟩ = some (.string s)) := fun W hW => by rw [hs]; exact (hW.cell (p := ⟨w1.heap.size, k, none⟩) lw (by simp)).trans (S2.out k hkl)
      have HN : Hid (cntM (k + 1) = cntM k + cntA s 6) := by
        rw [cntM, hs, List.getD_eq_getElem?_getD, List.getElem?_eq_getElem hkl]; rfl
      have hcm : cntM k ≤ 450 := by have := cntM_le k; omega
      obtain ⟨M, hM⟩ : ∃ M, M = cntM k := ⟨_, rfl⟩
      rw [← hM] at HN hcm ⊢
      have HM : Hid (M = cntM k) := hM
      clear hM hs hkl hu
      have hd : decide ((k : Int) < 75) = true := decide_eq_true (by omega)
      go_wp2_with fail
      go_loopw [2, 4] (fun n a wq => ∃ (j : Nat) (x : Int) (N : Nat), a = .int .i64 x ∧ n = .int .i64 (N : Nat) ∧ Hid (j ≤ 6 ∧ x = (j : Int) - 1 ∧ N = M + cntA s j) ∧ Upd [] w2 wq) (fun _ a _ => 6 - (intOf a + 1).toNat)
      case atStart => exact ⟨0, -1, M, rfl, rfl, ⟨Nat.zero_le _, rfl, rfl⟩, HU.out⟩
      case round =>
        obtain ⟨j, a, N, rfl, rfl, HA, hu⟩ := hrel
        have HV : Hid (Upd [] w2 wr) := hu
        by_cases h6 : j < 6
        · have hN2 : N ≤ 460 := by have := cntA_le s j; have := HA.out; omega
          have hA : Hid (cntA s (j + 1) = cntA s j + (if kindS s a = 0 then 0 else 1)) := by rw [HA.out.2.1]; rfl
          have a5 : a < 5 := by have := HA.out; omega
          have a0 : -1 ≤ a := by have := HA.out; omega
          have c0 := C0.out wr hu
          clear hu
          obtain ⟨R, hR⟩ : ∃ R, R = kindS s a := ⟨_, rfl⟩
          have hR4 : R ≤ 4 := by rw [hR]; exact kindS_le s a
          go_wp2_with fail
          refine Calls.mono (Kind_any s a wr (HF.out.2.2.mono (V2.out.trans HV.out))) ?_
          rintro e wk ⟨rfl, rfl⟩
          rw [← hR]
          have HR : Hid (R = kindS s a) := hR
          clear hR
          go_wp2_with fail
          refine Calls.mono (rKind_any s a wk) ?_
          rintro e wl ⟨rfl, ul⟩
          rw [← HR.out]
          have HL : Hid (Upd [] w2 wl) := HV.out.trans ul
          clear ul HV c0
          by_cases hz : R = 0
          · have HS : Hid (N = M + cntA s (j + 1)) := by rw [hA.out, if_pos (HR.out ▸ hz)]; exact HA.out.2.2
            subst hz
            go_wp2_with fail
            go_roundw
            case rel => exact ⟨j + 1, a + 1, N, by go_num, rfl, ⟨by omega, by have := HA.out; omega, HS.out⟩, HL.out⟩
            case measure => simp [intOf]; omega
          · have HS : Hid (N + 1 = M + cntA s (j + 1)) := by show N + 1 = M + cntA s (j + 1); rw [hA.out, if_neg (HR.out ▸ hz)]; have := HA.out.2.2; omega
            go_wp2_with fail
            go_roundw
            case rel => exact ⟨j + 1, a + 1, N + 1, by go_num, by go_num, ⟨by omega, by have := HA.out; omega, HS.out⟩, HL.out⟩
            case measure => simp [intOf]; omega
        · have e5 : a = 5 := by have := HA.out; omega
          have eN : Hid (N = cntM (k + 1)) := by
            have := HA.out
            have e6 : j = 6 := by omega
            rw [HN.out, ← e6]; exact this.2.2
          subst e5
          clear hu
          go_wp2_with fail
          go_roundw
          case rel => exact ⟨k + 1, by omega, by go_num, by rw [eN.out], HV.out⟩
          case measure => simp [intOf]; omega
    · obtain rfl : k = 75 := by omega
      rw [cnt_all]
      have HU : Hid (Upd [] w wr) := V2.out.trans hu
      clear hu
      go_wp2_with fail
      go_ret
      exact ⟨rfl, HU.out⟩

end Go.Proofs.YtbajgfoaakehbaaDoor
