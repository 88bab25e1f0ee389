/- alike: rows that are the same but for places and kids. -/
import Derived.Test.YtejcppnleckmfaaDoorNsG
namespace Go.Proofs.YtejcppnleckmfaaDoor
open Go.RowKit

/-- Two rows whose heads are alike. -/
def alR : List Nd → List Nd → Bool
  | [], [] => true
  | a :: r, b :: r' => heaN a b && alR r r'
  | [], _ :: _ => false
  | _ :: _, [] => false
theorem alR_no : ∀ (K J : List Nd), K.length ≠ J.length → alR K J = false
  | [], [], h => absurd rfl h
  | a :: r, b :: r', h => by rw [alR, alR_no r r' (fun e => h (by simp [e])), Bool.and_false]
  | [], _ :: _, _ => rfl
  | _ :: _, [], _ => rfl
theorem alR_next (K J : List Nd) (k : Nat) (hk : k < K.length) (hj : k < J.length) : alR (K.drop k) (J.drop k) = (heaN K[k] J[k] && alR (K.drop (k + 1)) (J.drop (k + 1))) := by
  rw [List.drop_eq_getElem_cons hk, List.drop_eq_getElem_cons hj, alR]

set_option maxHeartbeats 1000000 in
set_option maxRecDepth 100000 in
theorem hea_in (d : Nat) (w : World) (cs cs' : List Value) (t u : Nd) (h : NIn w d cs t) (h' : NIn w d cs' u) :
    Calls Tryd.prog 38 #[.agg cs.toArray, .agg cs'.toArray] w fun e w' => e = .returned (.bool (heaN t u)) ∧ Upd [] w w' := by
  cases d with
  | zero => exact h.elim
  | succ d =>
    obtain ⟨k0, s0, num0, pos0, K⟩ := t
    obtain ⟨k1, s1, num1, pos1, J⟩ := u
    obtain ⟨a0, c0, rfl, hK, -⟩ := h
    obtain ⟨a1, c1, rfl, hJ, -⟩ := h'
    have e : heaN (.mk k0 s0 num0 pos0 K) (.mk k1 s1 num1 pos1 J) = (k0 == k1 && num0 == num1 && s0.toList == s1.toList) := by rw [heaN]
    obtain ⟨R, hR⟩ : ∃ R, R = heaN (.mk k0 s0 num0 pos0 K) (.mk k1 s1 num1 pos1 J) := ⟨_, rfl⟩
    rw [← hR] at e ⊢
    have HE : Hid (R = _) := e
    have u0 : Upd [] w ((w.alloc (.cells #[.int .u8 k0, .string s0, .int .i64 num0, .int .i64 pos0, .slice a0 K.length c0] 25)).alloc (.cells #[.int .u8 k1, .string s1, .int .i64 num1, .int .i64 pos1, .slice a1 J.length c1] 25)) := ((Upd.refl [] w).alloc _).alloc _
    have HU0 : Hid _ := u0
    clear hK hJ e hR u0
    go_enter Tryd.func38, Tryd.ntmps38
    cases hk : (k0 == k1) with
    | false =>
      go_wp2
      go_ret
      exact ⟨ret_boolN (by rw [HE.out, hk]; rfl), HU0.out⟩
    | true =>
      cases hm : (num0 == num1) with
      | false =>
        go_wp2
        go_ret
        exact ⟨ret_boolN (by rw [HE.out, hk, hm]; rfl), HU0.out⟩
      | true =>
        go_wp2
        go_ret
        exact ⟨ret_boolN (by rw [HE.out, hk, hm]; simp), HU0.out⟩

set_option maxHeartbeats 4000000 in
set_option maxRecDepth 100000 in
theorem alike_in (d : Nat) (w : World) (a a' : Option Addr) (c c' : Nat) (K J : List Nd) (h : RowN (NIn w d) w a K) (h' : RowN (NIn w d) w a' J) (hlK : K.length ≤ 20000) (_hlJ : J.length ≤ 20000) :
    Calls Tryd.prog 23 #[.slice a K.length c, .slice a' J.length c'] w fun e w' => e = .returned (.bool (alR K J)) ∧ Upd [] w w' := by
  have HF : Hid (Calls Tryd.prog 37 #[.slice a K.length c, .slice a' J.length c', .func (.func 38) #[] #[]] w fun e w' => e = .returned (.bool (alR K J)) ∧ Upd [] w w') := by
    show Calls _ _ _ _ _
    have HA : Hid (RowN (NIn w d) w a K) := h
    have HB : Hid (RowN (NIn w d) w a' J) := h'
    have eg : ∀ args w, (callFunc 38 args).run Tryd.prog w = .ok (.enter 38 args) w := Tryd.call38
    clear h h'
    by_cases hl : K.length = J.length
    · have HL : Hid (K.length = J.length) := hl
      have hl2 : ((K.length : Int) != (J.length : Int)) = false := by simp [bne, hl]
      have hl3 : ((K.length : Int) == (J.length : Int)) = true := by simp [hl]
      clear hl
      go_enter Tryd.func37, Tryd.ntmps37
      go_wp2
      go_loopw [17] (fun i wr => ∃ k : Nat, k ≤ K.length ∧ i = .int .i64 k ∧ alR K J = alR (K.drop k) (J.drop k) ∧ Upd [] w wr) (fun i _ => K.length - (intOf i).toNat)
      case atStart => exact ⟨0, Nat.zero_le _, rfl, rfl, Upd.refl _ _⟩
      case round =>
        obtain ⟨k, hk', rfl, hr, hU⟩ := hrel
        have HRR : Hid (alR K J = alR (K.drop k) (J.drop k)) := hr
        clear hr
        by_cases hk2 : k < K.length
        · have hk3 : k < J.length := by have := HL.out; omega
          rcases HA.out with h0 | ⟨b, o, rfl, hlt, hc⟩
          · rw [h0] at hk2; simp at hk2
          rcases HB.out with h0 | ⟨b', o', rfl, hlt', hc'⟩
          · rw [h0] at hk3; simp at hk3
          obtain ⟨cs, hl5, hcell, hin⟩ := hc k hk2
          obtain ⟨cs', hl5', hcell', hin'⟩ := hc' k hk3
          have hone := hin.one
          have hone' := hin'.one
          obtain ⟨q0, q1, q2, q3, q4, rfl⟩ := list5 hl5
          obtain ⟨p0, p1, p2, p3, p4, rfl⟩ := list5 hl5'
          have HNX : Hid _ := alR_next K J k hk2 hk3
          obtain ⟨z, hz⟩ : ∃ z, z = heaN K[k] J[k] := ⟨_, rfl⟩
          have HCALL : Hid (∀ W, Upd [] wr W → Calls Tryd.prog 38 #[.agg #[q0, q1, q2, q3, q4], .agg #[p0, p1, p2, p3, p4]] W fun e w' => e = .returned (.bool z) ∧ Upd [] W w') := fun W hu => by
            rw [hz]
            exact hea_in d W [q0, q1, q2, q3, q4] [p0, p1, p2, p3, p4] _ _ (NIn.mono (hU.trans hu) _ _ _ hin) (NIn.mono (hU.trans hu) _ _ _ hin')
          rw [← hz] at HNX
          have mc : ∀ j, j < 5 → wr.cell? ⟨b, o + (k * 5 + j), none⟩ = [q0, q1, q2, q3, q4][j]? := fun j hj => (hU.cell (p := ⟨b, o + (k * 5 + j), none⟩) hlt (by simp)).trans (hcell j hj)
          have hltr : b < wr.heap.size := Nat.lt_of_lt_of_le hlt hU.size
          have hltr' : b' < wr.heap.size := Nat.lt_of_lt_of_le hlt' hU.size
          have x0 : wr.cell? ⟨b, o + k * 5, none⟩ = some q0 := mc 0 (by omega)
          have x1 : wr.cell? ⟨b, o + k * 5 + 1, none⟩ = some q1 := mc 1 (by omega)
          have x2 : wr.cell? ⟨b, o + k * 5 + 2, none⟩ = some q2 := mc 2 (by omega)
          have x3 : wr.cell? ⟨b, o + k * 5 + 3, none⟩ = some q3 := mc 3 (by omega)
          have x4 : wr.cell? ⟨b, o + k * 5 + 4, none⟩ = some q4 := mc 4 (by omega)
          have i1 : (k : Int) < (K.length : Int) := by omega
          have i2 : (k : Int) < (J.length : Int) := by omega
          have tz : Tb (wr.alloc (.cells #[.int .u8 0, .string ⟨#[]⟩, .int .i64 0, .int .i64 0, .slice none 0 0] 25)) wr.heap.size #[.int .u8 0, .string ⟨#[]⟩, .int .i64 0, .int .i64 0, .slice none 0 0] := Tb.new _ _ _ rfl
          have HUZ : Hid (Upd [] wr (wr.alloc (.cells #[.int .u8 0, .string ⟨#[]⟩, .int .i64 0, .int .i64 0, .slice none 0 0] 25))) := (Upd.refl [] wr).alloc _
          have HC' : Hid (∀ j, j < 5 → w.cell? ⟨b', o' + (k * 5 + j), none⟩ = [p0, p1, p2, p3, p4][j]?) := hcell'
          clear hc hc' hin hin' hcell hcell' hl5 hl5' mc hz
          have HU : Hid (Upd [] w wr) := hU
          clear hU
          go_wp2_with (first
            | (refine store_T _ rfl _ _ rfl _ #[q0, q1, q2, q3, q4] _ rfl rfl tz rfl rfl hone ?_; intro w1 t1 u1
               have U1 : Upd [] wr w1 := HUZ.out.then u1 (by simp)
               have y0 : w1.cell? ⟨b', o' + k * 5, none⟩ = some p0 := ((HU.out.trans U1).cell (p := ⟨b', o' + (k * 5 + 0), none⟩) hlt' (by simp)).trans (HC'.out 0 (by omega))
               have y1 : w1.cell? ⟨b', o' + k * 5 + 1, none⟩ = some p1 := ((HU.out.trans U1).cell (p := ⟨b', o' + (k * 5 + 1), none⟩) hlt' (by simp)).trans (HC'.out 1 (by omega))
               have y2 : w1.cell? ⟨b', o' + k * 5 + 2, none⟩ = some p2 := ((HU.out.trans U1).cell (p := ⟨b', o' + (k * 5 + 2), none⟩) hlt' (by simp)).trans (HC'.out 2 (by omega))
               have y3 : w1.cell? ⟨b', o' + k * 5 + 3, none⟩ = some p3 := ((HU.out.trans U1).cell (p := ⟨b', o' + (k * 5 + 3), none⟩) hlt' (by simp)).trans (HC'.out 3 (by omega))
               have y4 : w1.cell? ⟨b', o' + k * 5 + 4, none⟩ = some p4 := ((HU.out.trans U1).cell (p := ⟨b', o' + (k * 5 + 4), none⟩) hlt' (by simp)).trans (HC'.out 4 (by omega))
               have HU1 : Hid (Upd [] wr w1) := U1
               have hs1 : wr.heap.size < w1.heap.size := t1.lt
               clear U1 u1 x0 x1 x2 x3 x4 tz
               have tz2 : Tb (w1.alloc (.cells #[.int .u8 0, .string ⟨#[]⟩, .int .i64 0, .int .i64 0, .slice none 0 0] 25)) w1.heap.size #[.int .u8 0, .string ⟨#[]⟩, .int .i64 0, .int .i64 0, .slice none 0 0] := Tb.new _ _ _ rfl
               have t1' : Tb (w1.alloc (.cells #[.int .u8 0, .string ⟨#[]⟩, .int .i64 0, .int .i64 0, .slice none 0 0] 25)) wr.heap.size #[q0, q1, q2, q3, q4] := t1.old _)
            | (refine store_T _ rfl _ _ rfl _ #[p0, p1, p2, p3, p4] _ rfl rfl tz2 rfl rfl hone' ?_; intro w2 t2 u2
               have t3 : Tb w2 wr.heap.size #[q0, q1, q2, q3, q4] := t1'.mono u2 (by simp; omega)
               have U2 : Upd [] wr w2 := HU1.out.trans (((Upd.refl [] w1).alloc _).then u2 (by simp))
               have HU2 : Hid (Upd [] wr w2) := U2
               clear U2 u2 y0 y1 y2 y3 y4 tz2 t1' t1)
            | (refine load_T _ rfl _ rfl _ _ rfl t3 rfl ?_)
            | (refine load_T _ rfl _ rfl _ _ rfl t2 rfl ?_)
            | fail)
          refine (HCALL.out _ HU2.out).mono ?_
          rintro e w3 ⟨rfl, hU3⟩
          have HU3 : Hid (Upd [] w w3) := (HU.out.trans HU2.out).trans hU3
          clear hU3 t2 t3 HCALL
          cases z with
          | true =>
            go_wp2
            go_roundw
            case rel => exact ⟨k + 1, by omega, by go_num, by rw [HRR.out, HNX.out]; rfl, HU3.out⟩
            case measure => simp [intOf]; omega
          | false =>
            go_wp2
            go_ret
            exact ⟨ret_boolN (by rw [HRR.out, HNX.out]; rfl), HU3.out⟩
        · have hd : decide ((k : Int) < (K.length : Int)) = false := by simp; omega
          have HF : Hid (alR K J = true) := by
            show alR K J = true
            rw [HRR.out, List.drop_of_length_le (by omega), List.drop_of_length_le (by have := HL.out; omega)]
            rfl
          go_wp2
          go_ret
          exact ⟨ret_boolN HF.out.symm, hU⟩
    · have hne : ((K.length : Int) != (J.length : Int)) = true := by simp; omega
      have HF : Hid (alR K J = false) := alR_no K J hl
      clear hl
      go_enter Tryd.func37, Tryd.ntmps37
      go_wp2
      go_ret
      exact ⟨ret_boolN HF.out.symm, Upd.refl _ _⟩
  clear h h'
  go_enter Tryd.func23, Tryd.ntmps23
  go_wp2_with fail
  refine HF.out.mono ?_
  rintro e w1 ⟨rfl, hU1⟩
  go_wp2
  go_ret
  exact ⟨rfl, hU1⟩

end Go.Proofs.YtejcppnleckmfaaDoor
