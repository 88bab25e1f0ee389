/- The reference's Same, by its contract. -/
import Derived.Test.YtejcppnleckmfaaDoorNsC
namespace Go.Proofs.YtejcppnleckmfaaDoor
open Go.RowKit

theorem samR_no (K J : List Nd) (h : K.length ≠ J.length) : samR K J = false := by
  cases hs : samR K J with
  | false => rfl
  | true => exact absurd (samR_len K J hs) h
theorem samR_next (K J : List Nd) (k : Nat) (hk : k < K.length) (hj : k < J.length) : samR (K.drop k) (J.drop k) = (samN K[k] J[k] && samR (K.drop (k + 1)) (J.drop (k + 1))) := by
  rw [List.drop_eq_getElem_cons hk, List.drop_eq_getElem_cons hj, samR]
theorem ret_boolN {a b : Bool} (h : a = b) : Ending.returned (.bool a) = .returned (.bool b) := by rw [h]

/-- What the reference's Same is to answer, of depth d. -/
def RSam (d : Nat) : Prop := ∀ (w : World) (cs cs' : List Value) (t u : Nd), NIn w d cs t → NIn w d cs' u → nsz t ≤ 20000 → nsz u ≤ 20000 → Calls Tryd.prog 8 #[.agg cs.toArray, .agg cs'.toArray] w fun e w' => e = .returned (.bool (samN t u)) ∧ Upd [] w w'

set_option maxHeartbeats 4000000 in
set_option maxRecDepth 100000 in
theorem RSam_step (d : Nat) (ih : RSam d) : RSam (d + 1) := by
  intro w cs cs' t u h h' hs hs'
  obtain ⟨k0, s0, num0, pos0, K⟩ := t
  obtain ⟨k1, s1, num1, pos1, J⟩ := u
  obtain ⟨a0, c0, rfl, hK, -⟩ := h
  obtain ⟨a1, c1, rfl, hJ, -⟩ := h'
  simp only [nsz] at hs hs'
  have hlK : K.length ≤ 20000 := Nat.le_trans (nszs_len K) hs
  have hlJ : J.length ≤ 20000 := Nat.le_trans (nszs_len J) hs'
  have e : samN (.mk k0 s0 num0 pos0 K) (.mk k1 s1 num1 pos1 J) = ((k0 == k1 && num0 == num1 && s0.toList == s1.toList) && samR K J) := by rw [samN]
  obtain ⟨R, hR⟩ : ∃ R, R = samN (.mk k0 s0 num0 pos0 K) (.mk k1 s1 num1 pos1 J) := ⟨_, rfl⟩
  rw [← hR] at e ⊢
  have HE : Hid (R = _) := e
  have HS : Hid (nszs K ≤ 20000) := hs
  have HS' : Hid (nszs J ≤ 20000) := hs'
  have HA : Hid (RowN (NIn w d) w a0 K) := hK
  have HB : Hid (RowN (NIn w d) w a1 J) := hJ
  have IH : Hid (RSam d) := ih
  have u0 : Upd [] w ((w.alloc (.cells #[.int .u8 k0, .string s0, .int .i64 num0, .int .i64 pos0, .slice a0 K.length c0] 25)).alloc (.cells #[.int .u8 k1, .string s1, .int .i64 num1, .int .i64 pos1, .slice a1 J.length c1] 25)) := ((Upd.refl [] w).alloc _).alloc _
  have HTX : Hid (Tb ((w.alloc (.cells #[.int .u8 k0, .string s0, .int .i64 num0, .int .i64 pos0, .slice a0 K.length c0] 25)).alloc (.cells #[.int .u8 k1, .string s1, .int .i64 num1, .int .i64 pos1, .slice a1 J.length c1] 25)) w.heap.size #[.int .u8 k0, .string s0, .int .i64 num0, .int .i64 pos0, .slice a0 K.length c0]) := (Tb.new w _ _ rfl).old _
  have HTY : Hid (Tb ((w.alloc (.cells #[.int .u8 k0, .string s0, .int .i64 num0, .int .i64 pos0, .slice a0 K.length c0] 25)).alloc (.cells #[.int .u8 k1, .string s1, .int .i64 num1, .int .i64 pos1, .slice a1 J.length c1] 25)) (w.heap.size + 1) #[.int .u8 k1, .string s1, .int .i64 num1, .int .i64 pos1, .slice a1 J.length c1]) := Tb.new _ _ _ (by simp)
  have HU0 : Hid _ := u0
  clear hK hJ hs hs' ih e hR u0
  go_enter Tryd.func8, Tryd.ntmps8
  cases hk : (k0 == k1) with
  | false =>
    have hk2 : (k0 != k1) = true := by rw [bne, hk]; rfl
    go_wp2
    go_ret
    exact ⟨ret_boolN (by rw [HE.out, hk]; rfl), HU0.out⟩
  | true =>
    have hk2 : (k0 != k1) = false := by rw [bne, hk]; rfl
    cases hb : (s0.toList == s1.toList) with
    | false =>
      go_wp2
      go_ret
      exact ⟨ret_boolN (by rw [HE.out, hk, hb]; simp), HU0.out⟩
    | true =>
      cases hm : (num0 == num1) with
      | false =>
        have hm2 : (num0 != num1) = true := by rw [bne, hm]; rfl
        go_wp2
        go_ret
        exact ⟨ret_boolN (by rw [HE.out, hk, hb, hm]; rfl), HU0.out⟩
      | true =>
        have hm2 : (num0 != num1) = false := by rw [bne, hm]; rfl
        have HEE : Hid (R = samR K J) := by show _ = _; rw [HE.out, hk, hb, hm]; rfl
        clear HE
        by_cases hl : K.length = J.length
        · have HL : Hid (K.length = J.length) := hl
          have hl2 : ((K.length : Int) != (J.length : Int)) = false := by simp [bne, hl]
          have hl3 : ((K.length : Int) == (J.length : Int)) = true := by simp [hl]
          clear hl
          go_wp2
          go_loopw [5] (fun i wr => ∃ k : Nat, k ≤ K.length ∧ i = .int .i64 k ∧ samR K J = samR (K.drop k) (J.drop k) ∧ Upd [] w wr ∧ Tb wr w.heap.size #[.int .u8 k0, .string s0, .int .i64 num0, .int .i64 pos0, .slice a0 K.length c0] ∧ Tb wr (w.heap.size + 1) #[.int .u8 k1, .string s1, .int .i64 num1, .int .i64 pos1, .slice a1 J.length c1]) (fun i _ => K.length - (intOf i).toNat)
          case atStart => exact ⟨0, Nat.zero_le _, rfl, rfl, HU0.out, HTX.out, HTY.out⟩
          case round =>
            obtain ⟨k, hk', rfl, hr, hU, tx, ty⟩ := hrel
            have HRR : Hid (samR K J = samR (K.drop k) (J.drop k)) := hr
            have x4 : ∀ n : Ext wr, n.W.cell? ⟨w.heap.size, 4, none⟩ = some (.slice a0 K.length c0) := fun n => (tx.mono n.h (by simp)).cell 4
            have y4 : ∀ n : Ext wr, n.W.cell? ⟨w.heap.size + 1, 4, none⟩ = some (.slice a1 J.length c1) := fun n => (ty.mono n.h (by simp)).cell 4
            have x4' : wr.cell? ⟨w.heap.size, 4, none⟩ = some (.slice a0 K.length c0) := tx.cell 4
            have HX : Hid (Tb wr w.heap.size #[.int .u8 k0, .string s0, .int .i64 num0, .int .i64 pos0, .slice a0 K.length c0] ∧ Tb wr (w.heap.size + 1) #[.int .u8 k1, .string s1, .int .i64 num1, .int .i64 pos1, .slice a1 J.length c1]) := ⟨tx, ty⟩
            clear hr tx ty
            by_cases hk2 : k < K.length
            · have hk3 : k < J.length := by have := HL.out; omega
              rcases HA.out with h0 | ⟨b, o, rfl, hlt, hc⟩
              · rw [h0] at hk2; simp at hk2
              rcases HB.out with h0 | ⟨b', o', rfl, hlt', hc'⟩
              · rw [h0] at hk3; simp at hk3
              obtain ⟨cs, hl5, hcell, hin⟩ := hc k hk2
              obtain ⟨cs', hl5', hcell', hin'⟩ := hc' k hk3
              obtain ⟨q0, q1, q2, q3, q4, rfl⟩ := list5 hl5
              obtain ⟨p0, p1, p2, p3, p4, rfl⟩ := list5 hl5'
              have HNX : Hid _ := samR_next K J k hk2 hk3
              obtain ⟨z, hz⟩ : ∃ z, z = samN K[k] J[k] := ⟨_, rfl⟩
              have HCALL : Hid (∀ n : Ext wr, Calls Tryd.prog 8 #[.agg #[q0, q1, q2, q3, q4], .agg #[p0, p1, p2, p3, p4]] n.W fun e w' => e = .returned (.bool z) ∧ Upd [] n.W w') := fun n => by
                rw [hz]
                exact IH.out n.W _ _ _ _ (NIn.mono (hU.trans n.h) _ _ _ hin) (NIn.mono (hU.trans n.h) _ _ _ hin') (Nat.le_trans (nszs_get K k hk2) HS.out) (Nat.le_trans (nszs_get J k hk3) HS'.out)
              rw [← hz] at HNX
              have mc : ∀ (n : Ext wr) j, j < 5 → n.W.cell? ⟨b, o + (k * 5 + j), none⟩ = [q0, q1, q2, q3, q4][j]? := fun n j hj => ((hU.trans n.h).cell (p := ⟨b, o + (k * 5 + j), none⟩) hlt (by simp)).trans (hcell j hj)
              have mc' : ∀ (n : Ext wr) j, j < 5 → n.W.cell? ⟨b', o' + (k * 5 + j), none⟩ = [p0, p1, p2, p3, p4][j]? := fun n j hj => ((hU.trans n.h).cell (p := ⟨b', o' + (k * 5 + j), none⟩) hlt' (by simp)).trans (hcell' j hj)
              have xq0 : ∀ n : Ext wr, n.W.cell? ⟨b, o + k * 5, none⟩ = some q0 := fun n => mc n 0 (by omega)
              have xp0 : ∀ n : Ext wr, n.W.cell? ⟨b', o' + k * 5, none⟩ = some p0 := fun n => mc' n 0 (by omega)
              have xq1 : ∀ n : Ext wr, n.W.cell? ⟨b, o + k * 5 + 1, none⟩ = some q1 := fun n => mc n 1 (by omega)
              have xp1 : ∀ n : Ext wr, n.W.cell? ⟨b', o' + k * 5 + 1, none⟩ = some p1 := fun n => mc' n 1 (by omega)
              have xq2 : ∀ n : Ext wr, n.W.cell? ⟨b, o + k * 5 + 2, none⟩ = some q2 := fun n => mc n 2 (by omega)
              have xp2 : ∀ n : Ext wr, n.W.cell? ⟨b', o' + k * 5 + 2, none⟩ = some p2 := fun n => mc' n 2 (by omega)
              have xq3 : ∀ n : Ext wr, n.W.cell? ⟨b, o + k * 5 + 3, none⟩ = some q3 := fun n => mc n 3 (by omega)
              have xp3 : ∀ n : Ext wr, n.W.cell? ⟨b', o' + k * 5 + 3, none⟩ = some p3 := fun n => mc' n 3 (by omega)
              have xq4 : ∀ n : Ext wr, n.W.cell? ⟨b, o + k * 5 + 4, none⟩ = some q4 := fun n => mc n 4 (by omega)
              have xp4 : ∀ n : Ext wr, n.W.cell? ⟨b', o' + k * 5 + 4, none⟩ = some p4 := fun n => mc' n 4 (by omega)
              have i1 : (k : Int) < (K.length : Int) := by omega
              have i2 : (k : Int) < (J.length : Int) := by omega
              clear hc hc' hin hin' hcell hcell' hl5 hl5' mc mc' hz
              go_wp2_with fail
              have hne : Nonempty (Ext wr) := ⟨⟨wr, Upd.refl [] wr⟩⟩
              refine wp_region_ext (by kernel_rfl) (by kernel_rfl) ?_
              repeat (go_big_quiet_step ((go_at_call 8; exact Ext.call (HCALL.out _))))
              refine wpQuiet_nil ?_
              intro _ hw'
              obtain ⟨nx, hw''⟩ := hw'
              subst hw''
              have HU2 : Hid (Upd [] w nx.W) := hU.trans nx.h
              have HX2 : Hid (Tb nx.W w.heap.size #[.int .u8 k0, .string s0, .int .i64 num0, .int .i64 pos0, .slice (some ⟨b, o, none⟩) K.length c0] ∧ Tb nx.W (w.heap.size + 1) #[.int .u8 k1, .string s1, .int .i64 num1, .int .i64 pos1, .slice (some ⟨b', o', none⟩) J.length c1]) := ⟨HX.out.1.mono nx.h (by simp), HX.out.2.mono nx.h (by simp)⟩
              clear xq0 xq1 xq2 xq3 xq4 xp0 xp1 xp2 xp3 xp4 HCALL x4 y4 x4'
              cases z with
              | true =>
                go_wp2
                go_roundw
                case rel => exact ⟨k + 1, by omega, by go_num, by rw [HRR.out, HNX.out]; rfl, HU2.out, HX2.out.1, HX2.out.2⟩
                case measure => simp [intOf]; omega
              | false =>
                go_wp2
                go_ret
                exact ⟨ret_boolN (by rw [HEE.out, HRR.out, HNX.out]; rfl), HU2.out⟩
            · have hd : decide ((k : Int) < (K.length : Int)) = false := by simp; omega
              have HF : Hid (samR K J = true) := by
                show samR K J = true
                rw [HRR.out, List.drop_of_length_le (by omega), List.drop_of_length_le (by have := HL.out; omega)]
                rfl
              go_wp2
              go_ret
              exact ⟨ret_boolN (by rw [HEE.out, HF.out]), hU⟩
        · have hne : ((K.length : Int) != (J.length : Int)) = true := by simp; omega
          have HF : Hid (samR K J = false) := samR_no K J hl
          clear hl
          go_wp2
          go_ret
          exact ⟨ret_boolN (by rw [HEE.out, HF.out]), HU0.out⟩
theorem RSam_all : ∀ d, RSam d
  | 0 => fun _ _ _ _ _ h => h.elim
  | d + 1 => RSam_step d (RSam_all d)

end Go.Proofs.YtejcppnleckmfaaDoor
