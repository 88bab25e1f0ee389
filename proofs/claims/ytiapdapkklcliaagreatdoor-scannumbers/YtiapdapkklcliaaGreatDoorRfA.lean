/- The reference's small functions: what a byte is; escapes. -/
import Derived.Test.YtiapdapkklcliaaGreatDoorEsc
import Derived.Test.YtiapdapkklcliaaGreatDoorRfM
namespace Go.Proofs.YtiapdapkklcliaaGreatDoor
open Go.RowKit

set_option maxHeartbeats 400000 in
theorem rlow_any (c : UInt8) (w : World) : Calls Tryz.prog 45 #[.int .u8 c.toNat] w fun e w' => e = .returned (.bool (Sc.isLower c)) ∧ w' = w := by
  go_enter Tryz.func45, Tryz.ntmps45
  go_wp2
  all_goals
    go_ret
    exact ⟨ret_bool (by simp [Sc.isLower, u8_le, *] <;> omega), rfl⟩
set_option maxHeartbeats 400000 in
theorem rdigit_any (c : UInt8) (w : World) : Calls Tryz.prog 48 #[.int .u8 c.toNat] w fun e w' => e = .returned (.bool (Sc.isDigit c)) ∧ w' = w := by
  go_enter Tryz.func48, Tryz.ntmps48
  go_wp2
  all_goals
    go_ret
    exact ⟨ret_bool (by simp [Sc.isDigit, u8_le, *] <;> omega), rfl⟩
set_option maxHeartbeats 400000 in
theorem rhigh_any (c : UInt8) (w : World) : Calls Tryz.prog 46 #[.int .u8 c.toNat] w fun e w' => e = .returned (.bool (Sc.high c)) ∧ w' = w := by
  go_enter Tryz.func46, Tryz.ntmps46
  go_wp2
  all_goals
    go_ret
    exact ⟨ret_bool (by simp [Sc.high, u8_le, u8_beq, *] <;> omega), rfl⟩
set_option maxHeartbeats 400000 in
theorem rblank_any (c : UInt8) (w : World) : Calls Tryz.prog 22 #[.int .u8 c.toNat] w fun e w' => e = .returned (.bool (Sc.isBlank c)) ∧ w' = w := by
  go_enter Tryz.func22, Tryz.ntmps22
  go_wp2
  all_goals
    go_ret
    exact ⟨ret_bool (by simp [Sc.isBlank, u8_beq, *]), rfl⟩
set_option maxHeartbeats 400000 in
theorem rnamed_any (c : UInt8) (w : World) : Calls Tryz.prog 49 #[.int .u8 c.toNat] w fun e w' => e = .returned (.bool (Sc.named c)) ∧ w' = w := by
  go_enter Tryz.func49, Tryz.ntmps49
  go_wp2_with (first | (go_at_call 45; refine (rlow_any _ _).mono ?_; rintro e w' ⟨rfl, rfl⟩) | (go_at_call 46; refine (rhigh_any _ _).mono ?_; rintro e w' ⟨rfl, rfl⟩) | (go_at_call 48; refine (rdigit_any _ _).mono ?_; rintro e w' ⟨rfl, rfl⟩))
  all_goals
    go_ret
    exact ⟨ret_bool (by simp [Sc.named, u8_beq, *]), rfl⟩

/-- What a digit in base 16 says; -1: it is none. -/
def hexI (c : UInt8) : Int := if (Sc.hexV c).toNat ≤ 15 then ((Sc.hexV c).toNat : Int) else -1
theorem hexI_eq (c : UInt8) : hexI c = if 48 ≤ c.toNat ∧ c.toNat ≤ 57 then (c.toNat : Int) - 48 else if 97 ≤ c.toNat ∧ c.toNat ≤ 102 then (c.toNat : Int) - 87 else if 65 ≤ c.toNat ∧ c.toNat ≤ 70 then (c.toNat : Int) - 55 else -1 := by
  unfold hexI
  rw [hexV_nat]
  repeat' split
  all_goals omega
set_option maxHeartbeats 400000 in
theorem rhex_any (c : UInt8) (w : World) : Calls Tryz.prog 116 #[.int .u8 c.toNat] w fun e w' => e = .returned (.int .i64 (hexI c)) ∧ w' = w := by
  have hc : c.toNat < 256 := c.toNat_lt
  have HX : Hid (hexI c = _) := hexI_eq c
  have HD : Hid (Sc.isDigit c = _) := isDigit_iff c
  go_enter Tryz.func116, Tryz.ntmps116
  go_wp2_with (go_at_call 48; refine (rdigit_any _ _).mono ?_; rintro e w' ⟨rfl, rfl⟩)
  all_goals
    go_ret
    have hd := HD.out
    simp only [*] at hd
    first | have hd := of_decide_eq_true hd.symm | have hd := of_decide_eq_false hd.symm
    exact ⟨ret_int (by rw [HX.out]; repeat' split
                       all_goals omega), rfl⟩

/-- What the document tells of an escape: the byte, and how many bytes it takes behind the backslash. -/
def escR (l : List UInt8) : UInt8 × Nat := ((Sc.escape l).1, (Sc.escape l).2 - 1)

theorem byt_cons (s : ByteArray) (h : 0 < s.size) : byt s = s[0] :: (byt s).drop 1 := by
  have := List.drop_eq_getElem_cons (l := byt s) (i := 0) (by rw [byt_len]; exact h)
  rw [List.drop_zero, byt_get s 0 h] at this
  exact this
theorem escR_nil : escR [] = (0, 0) := rfl
theorem escR_n (r : List UInt8) : escR (110 :: r) = (10, 1) := rfl
theorem escR_t (r : List UInt8) : escR (116 :: r) = (9, 1) := rfl
theorem escR_q (c : UInt8) (r : List UInt8) (h : c = 92 ∨ c = 39 ∨ c = 34) : escR (c :: r) = (c, 1) := by
  rcases h with rfl | rfl | rfl <;> rfl
theorem escR_else (c : UInt8) (r : List UInt8) (h1 : c ≠ 110) (h2 : c ≠ 116) (h3 : c ≠ 92) (h4 : c ≠ 39) (h5 : c ≠ 34) (h6 : c ≠ 120) : escR (c :: r) = (0, 0) := by
  unfold escR
  rw [escape_else c r ⟨h1, h2, h3, h4, h5⟩, if_neg h6]
  rfl
theorem escR_x (a b : UInt8) (r : List UInt8) : escR (120 :: a :: b :: r) = if 15 < Sc.hexV a || 15 < Sc.hexV b then ((0 : UInt8), (0 : Nat)) else (Sc.hexV a <<< 4 ||| Sc.hexV b, 3) := by
  unfold escR
  rw [escape_else 120 _ (by decide)]
  simp only [if_true]
  split <;> rfl
theorem escR_x0 : escR [120] = (0, 0) := rfl
theorem escR_x1 (a : UInt8) : escR [120, a] = (0, 0) := rfl
theorem hexI_ge (c : UInt8) : (0 ≤ hexI c) ↔ ¬ 15 < Sc.hexV c := by
  rw [u8_15]
  unfold hexI
  split <;> omega
theorem hexI_pos (c : UInt8) (h : 0 ≤ hexI c) : hexI c = ((Sc.hexV c).toNat : Int) ∧ (Sc.hexV c).toNat ≤ 15 := by
  unfold hexI at h ⊢
  split
  · exact ⟨rfl, by assumption⟩
  · rename_i hc; rw [if_neg hc] at h; omega
theorem hexI_ge' (c : UInt8) : -1 ≤ hexI c ∧ hexI c ≤ 15 := by
  unfold hexI
  split <;> omega

theorem ret_pairs {k : IntKind} {a b c d : Int} (h : a = b) (h2 : c = d) : Ending.returned (.tuple #[.int .u8 a, .int k c]) = .returned (.tuple #[.int .u8 b, .int k d]) := by rw [h, h2]

set_option maxHeartbeats 2000000 in
theorem resc_any (s : ByteArray) (w : World) (hs : s.size ≤ 1000000000) :
    Calls Tryz.prog 84 #[.string s] w fun e w' => e = .returned (.tuple #[.int .u8 (escR (byt s)).1.toNat, .int .i64 (escR (byt s)).2]) ∧ Upd [] w w' := by
  by_cases h0 : s.size = 0
  · have hs : s = ⟨#[]⟩ := by
      apply ByteArray.ext
      exact Array.eq_empty_of_size_eq_zero h0
    subst hs
    go_enter Tryz.func84, Tryz.ntmps84
    go_wp2
    go_ret2
    exact ⟨rfl, Upd.refl _ _⟩
  · have h1 : 0 < s.size := by omega
    have hne : s.toList.isEmpty = false := by
      rw [Lib.toList_data, Bool.eq_false_iff]
      intro h
      have := byt_len s
      rw [show byt s = [] from List.isEmpty_iff.1 h] at this
      exact h0 this.symm
    rw [byt_cons s h1]
    have i0 : (0 : Int) < (s.size : Int) := by omega
    cases q1 : ((s[0].toNat : Int) == 110) with
    | true =>
      have e : s[0] = 110 := by rw [beq_iff_eq] at q1; exact (u8_eq _ _).2 q1
      have HE : Hid (escR (s[0] :: (byt s).drop 1) = (10, 1)) := by show _ = _; rw [e]; exact escR_n _
      rw [HE.out]
      clear e
      go_enter Tryz.func84, Tryz.ntmps84
      go_wp2
      go_ret2
      exact ⟨rfl, Upd.refl _ _⟩
    | false =>
    have n1 : s[0] ≠ 110 := fun e => by rw [e] at q1; cases q1
    cases q2 : ((s[0].toNat : Int) == 116) with
    | true =>
      have e : s[0] = 116 := by rw [beq_iff_eq] at q2; exact (u8_eq _ _).2 q2
      have HE : Hid (escR (s[0] :: (byt s).drop 1) = (9, 1)) := by show _ = _; rw [e]; exact escR_t _
      rw [HE.out]
      clear e n1
      go_enter Tryz.func84, Tryz.ntmps84
      go_wp2
      go_ret2
      exact ⟨rfl, Upd.refl _ _⟩
    | false =>
    have n2 : s[0] ≠ 116 := fun e => by rw [e] at q2; cases q2
    by_cases hq : s[0] = 92 ∨ s[0] = 39 ∨ s[0] = 34
    · have HE : Hid (escR (s[0] :: (byt s).drop 1) = (s[0], 1)) := escR_q _ _ hq
      rw [HE.out]
      have HQ : Hid (s[0] = 92 ∨ s[0] = 39 ∨ s[0] = 34) := hq
      clear n1 n2 hq
      cases q3 : ((s[0].toNat : Int) == 92) with
      | true =>
        go_enter Tryz.func84, Tryz.ntmps84
        go_wp2
        go_ret2
        exact ⟨rfl, Upd.refl _ _⟩
      | false =>
      cases q4 : ((s[0].toNat : Int) == 39) with
      | true =>
        go_enter Tryz.func84, Tryz.ntmps84
        go_wp2
        go_ret2
        exact ⟨rfl, Upd.refl _ _⟩
      | false =>
        have q5 : ((s[0].toNat : Int) == 34) = true := by
          rcases HQ.out with h | h | h
          · rw [h] at q3; cases q3
          · rw [h] at q4; cases q4
          · rw [h]; rfl
        go_enter Tryz.func84, Tryz.ntmps84
        go_wp2
        go_ret2
        exact ⟨rfl, Upd.refl _ _⟩
    · have n3 : s[0] ≠ 92 := fun e => hq (Or.inl e)
      have n4 : s[0] ≠ 39 := fun e => hq (Or.inr (Or.inl e))
      have n5 : s[0] ≠ 34 := fun e => hq (Or.inr (Or.inr e))
      have q3 : ((s[0].toNat : Int) == 92) = false := by rw [Bool.eq_false_iff]; intro h; rw [beq_iff_eq] at h; exact n3 ((u8_eq _ _).2 h)
      have q4 : ((s[0].toNat : Int) == 39) = false := by rw [Bool.eq_false_iff]; intro h; rw [beq_iff_eq] at h; exact n4 ((u8_eq _ _).2 h)
      have q5 : ((s[0].toNat : Int) == 34) = false := by rw [Bool.eq_false_iff]; intro h; rw [beq_iff_eq] at h; exact n5 ((u8_eq _ _).2 h)
      cases q6 : ((s[0].toNat : Int) == 120) with
      | false =>
        have n6 : s[0] ≠ 120 := fun e => by rw [e] at q6; cases q6
        have HE : Hid (escR (s[0] :: (byt s).drop 1) = (0, 0)) := escR_else _ _ n1 n2 n3 n4 n5 n6
        rw [HE.out]
        clear n1 n2 n3 n4 n5 n6 hq
        go_enter Tryz.func84, Tryz.ntmps84
        go_wp2
        go_ret2
        exact ⟨rfl, Upd.refl _ _⟩
      | true =>
        have e : s[0] = 120 := by rw [beq_iff_eq] at q6; exact (u8_eq _ _).2 q6
        have HX : Hid (s[0] = 120) := e
        clear n1 n2 n3 n4 n5 hq e
        by_cases h3 : 3 ≤ s.size
        · have g3 : (3 : Int) ≤ (s.size : Int) := by omega
          have d1 : (byt s).drop 1 = s[1] :: s[2] :: (byt s).drop 3 := by
            rw [List.drop_eq_getElem_cons (by rw [byt_len]; omega), List.drop_eq_getElem_cons (by rw [byt_len]; omega)]
            rfl
          have e3 : escR (s[0] :: (byt s).drop 1) = if (15 : UInt8) < Sc.hexV s[1] || (15 : UInt8) < Sc.hexV s[2] then ((0 : UInt8), (0 : Nat)) else (Sc.hexV s[1] <<< 4 ||| Sc.hexV s[2], 3) := by rw [HX.out, d1]; exact escR_x _ _ _
          have i1 : (1 : Int) < (s.size : Int) := by omega
          have i2 : (2 : Int) < (s.size : Int) := by omega
          have hx15 := hexI_ge' s[1]
          have hy15 := hexI_ge' s[2]
          by_cases hx0 : 0 ≤ hexI s[1]
          · by_cases hy0 : 0 ≤ hexI s[2]
            · have hxv := hexI_pos s[1] hx0
              have hyv := hexI_pos s[2] hy0
              have a1 := (hexI_ge s[1]).1 hx0
              have a2 := (hexI_ge s[2]).1 hy0
              have hbv := Sc.hex_byte s[1] s[2] a1 a2
              rw [if_neg (by simp [a1, a2])] at e3
              have HE : Hid (escR (s[0] :: (byt s).drop 1) = (Sc.hexV s[1] <<< 4 ||| Sc.hexV s[2], 3)) := e3
              rw [HE.out]
              have HV : Hid (((Sc.hexV s[1] <<< 4 ||| Sc.hexV s[2] : UInt8).toNat : Int) = 16 * hexI s[1] + hexI s[2]) := by
                show _ = _
                rw [hbv, hxv.1, hyv.1]; omega
              clear hxv hyv hbv e3 d1 HX a1 a2 HE
              go_enter Tryz.func84, Tryz.ntmps84
              go_wp2_with (go_at_call 116; refine (rhex_any _ _).mono ?_; rintro e w' ⟨rfl, rfl⟩)
              go_quiet (first | (go_at_call 116; exact Calls.quiet_of_same (rhex_any _ _)))
              go_wp2
              go_ret2
              exact ⟨ret_pairs (by rw [HV.out]; omega) rfl, (Upd.refl _ _).drewN _⟩
            · have a2 : (15 : UInt8) < Sc.hexV s[2] := by
                by_cases h : (15 : UInt8) < Sc.hexV s[2]
                · exact h
                · exact absurd ((hexI_ge s[2]).2 h) hy0
              rw [if_pos (by simp [a2])] at e3
              have HE : Hid (escR (s[0] :: (byt s).drop 1) = (0, 0)) := e3
              rw [HE.out]
              have hyn : decide (0 ≤ hexI s[2]) = false := by simp; omega
              clear e3 d1 HX a2 HE
              go_enter Tryz.func84, Tryz.ntmps84
              go_wp2_with (go_at_call 116; refine (rhex_any _ _).mono ?_; rintro e w' ⟨rfl, rfl⟩)
              all_goals
                go_ret2
                exact ⟨rfl, Upd.refl _ _⟩
          · have a1 : (15 : UInt8) < Sc.hexV s[1] := by
              by_cases h : (15 : UInt8) < Sc.hexV s[1]
              · exact h
              · exact absurd ((hexI_ge s[1]).2 h) hx0
            rw [if_pos (by simp [a1])] at e3
            have HE : Hid (escR (s[0] :: (byt s).drop 1) = (0, 0)) := e3
            rw [HE.out]
            have hxn : decide (0 ≤ hexI s[1]) = false := by simp; omega
            clear e3 d1 HX a1 HE
            go_enter Tryz.func84, Tryz.ntmps84
            go_wp2_with (go_at_call 116; refine (rhex_any _ _).mono ?_; rintro e w' ⟨rfl, rfl⟩)
            all_goals
              go_ret2
              exact ⟨rfl, Upd.refl _ _⟩
        · have g3 : decide ((3 : Int) ≤ (s.size : Int)) = false := by simp; omega
          have HE : Hid (escR (s[0] :: (byt s).drop 1) = (0, 0)) := by
            show _ = _
            rw [HX.out]
            have hl : ((byt s).drop 1).length ≤ 1 := by rw [List.length_drop, byt_len]; omega
            match hd : (byt s).drop 1, hl with
            | [], _ => exact escR_x0
            | [a], _ => exact escR_x1 a
            | a :: b :: r, h => simp at h
          rw [HE.out]
          clear HX
          go_enter Tryz.func84, Tryz.ntmps84
          go_wp2
          all_goals
            go_ret2
            exact ⟨rfl, Upd.refl _ _⟩

end Go.Proofs.YtiapdapkklcliaaGreatDoor
