/- addLimbs, by its contract. -/
import Derived.Test.YtnpocmhaoaigfaaGreatDoorJAA
namespace Go.Proofs.YtnpocmhaoaigfaaGreatDoor
open Go.RowKit

theorem pow_split (k x y : Nat) : 4294967296 ^ k * (x + 4294967296 * y) = 4294967296 ^ k * x + 4294967296 ^ (k + 1) * y := by
  rw [Nat.mul_add, Nat.pow_succ, Nat.mul_assoc]

theorem getD_set_ne (X : List Nat) (k d j : Nat) (h : j ≠ k) : (X.set k d).getD j 0 = X.getD j 0 := by
  rw [List.getD_eq_getElem?_getD, List.getD_eq_getElem?_getD, List.getElem?_set_ne (by omega)]

/-- One step of a sum. -/
theorem carry_step (X : List Nat) (k c low c' t : Nat) (hk : k < X.length) (hz : X.getD k 0 = 0) (h : low + 4294967296 * c' = c + t) :
    val (X.set k low) + 4294967296 ^ (k + 1) * c' = val X + 4294967296 ^ k * c + 4294967296 ^ k * t := by
  have h1 := val_set X k low hk
  rw [hz, Nat.mul_zero, Nat.add_zero] at h1
  rw [h1, Nat.add_assoc, Nat.add_assoc, ← pow_split, h, Nat.mul_add]

theorem add_step (X A B : List Nat) (k c low c' : Nat) (hk : k < X.length) (hz : X.getD k 0 = 0) (he : val X + 4294967296 ^ k * c = val (A.take k) + val (B.take k))
    (h : low + 4294967296 * c' = c + (1 * A.getD k 0 + B.getD k 0)) :
    val (X.set k low) + 4294967296 ^ (k + 1) * c' = val (A.take (k + 1)) + val (B.take (k + 1)) := by
  rw [carry_step X k c low c' _ hk hz h, he, val_take_succ, val_take_succ, Nat.one_mul, Nat.mul_add]
  generalize 4294967296 ^ k = p
  omega

/-- Nothing is carried beyond the end. -/
theorem no_carry (_b _p P c vx s : Nat) (h1 : s < P) (he : vx + P * c = s) : c = 0 := by
  rcases Nat.eq_zero_or_pos c with h | h
  · exact h
  · have h6 : P * 1 ≤ P * c := Nat.mul_le_mul_left _ h
    generalize P * c = t at *
    omega

theorem two_lt (b p x y : Nat) (hb : 2 ≤ b) (hx : x < p) (hy : y < p) : x + y < p * b := by
  have := Nat.mul_le_mul_left p hb
  generalize p * b = t at *
  omega

theorem add_end (X A B : List Nat) (m c : Nat) (hA : A.length ≤ m) (hB : B.length ≤ m) (dA : Dig A) (dB : Dig B)
    (he : val X + 4294967296 ^ (m + 1) * c = val (A.take (m + 1)) + val (B.take (m + 1))) : val X = val A + val B := by
  rw [val_take_all A _ (by omega), val_take_all B _ (by omega)] at he
  have h3 : 4294967296 ^ A.length ≤ 4294967296 ^ m := Nat.pow_le_pow_right (by decide) hA
  have h4 : 4294967296 ^ B.length ≤ 4294967296 ^ m := Nat.pow_le_pow_right (by decide) hB
  have h5 : val A + val B < 4294967296 ^ (m + 1) := by
    rw [Nat.pow_succ]
    exact two_lt _ _ _ _ (by decide) (Nat.lt_of_lt_of_le (val_lt dA) h3) (Nat.lt_of_lt_of_le (val_lt dB) h4)
  have h6 := no_carry 0 0 _ c _ _ h5 he
  rw [h6, Nat.mul_zero, Nat.add_zero] at he
  exact he

set_option maxHeartbeats 1000000 in
set_option maxRecDepth 100000 in
theorem addLimbs_lt (a b : Option Addr) (ca cb : Nat) (A B : List Nat) (w : World) (hA : A.length ≤ 1000) (hB : B.length ≤ 1000) (HA : At w a A) (HB : At w b B) (dA : Dig A) (dB : Dig B) (hlt : A.length < B.length) :
    Calls Tryz.prog 151 #[.slice a A.length ca, .slice b B.length cb] w fun e w' =>
      Upd [] w w' ∧ ∃ a' c' M, e = .returned (.slice a' M.length c') ∧ Norm M (val A + val B) ∧ At w' a' M ∧ M.length ≤ A.length + B.length + 1 ∧ M.length ≤ c' ∧ c' ≤ 9223372036854775807 := by
  go_enter Tryz.func151, Tryz.ntmps151
  go_wp2_with (at_make; refine make_u32 _ rfl _ _ rfl _ _ (B.length + 1) rfl rfl (by omega) (by omega) (by omega) ?_; intro w0 hblk hup)
  refine (carrying_any _ _ 1 0 _ rfl rfl (by omega)).mono ?_
  rintro e w1 ⟨rfl, hk, hbb, hup1⟩
  have hg := hblk.lt
  go_wp2_with fail
  go_loopw [18] (fun i wr => ∃ k c : Nat, ∃ X : List Nat, k ≤ B.length + 1 ∧ i = .int .i64 k ∧ Blk wr w.heap.size X ∧ X.length = B.length + 1 ∧ Dig X ∧ One wr (w0.heap.size + 1) .u64 68 c ∧ One wr w0.heap.size .u32 61 1 ∧ c < 4294967296 ∧ Upd [] w wr ∧
      (∀ j, k ≤ j → X.getD j 0 = 0) ∧ val X + 4294967296 ^ k * c = val (A.take k) + val (B.take k)) (fun i _ => B.length + 1 - (intOf i).toNat)
  case atStart =>
    refine ⟨0, 0, List.replicate (B.length + 1) 0, Nat.zero_le _, rfl, hblk.mono hup1 (by simp), by simp, Dig.replicate _, hk, hbb, by omega, hup.trans hup1, ?_, ?_⟩
    · intro j _
      rw [List.getD_eq_getElem?_getD, List.getElem?_replicate]; split <;> rfl
    · rw [val_replicate]; simp [val]
  case round =>
    obtain ⟨k, c, X, hk1, rfl, hX, hXl, dX, hK, hBB, hc, hU, hz, he⟩ := hrel
    have HZ : Hid _ := hz
    have HE : Hid _ := he
    have HL : Hid _ := hXl
    clear hz he hXl hblk hup hk hbb hup1
    by_cases hk2 : k < B.length + 1
    · go_wp2_with fail
      refine (limbAt_any a ca k A wr (by omega) (HA.mono hU)).mono ?_
      rintro e w2 ⟨rfl, rfl⟩
      go_wp2_with fail
      refine (limbAt_any b cb k B w2 (by omega) (HB.mono hU)).mono ?_
      rintro e w3 ⟨rfl, rfl⟩
      go_wp2_with fail
      refine (carrying1_any (A.getD k 0) (B.getD k 0) c 1 _ _ w3 (dA.getD k) (dB.getD k) (by omega) hc hK hBB).mono ?_
      rintro e w4 ⟨low, c', rfl, hlow, hc', hstep, hK4, hU4⟩
      have HS : Hid _ := hstep
      clear hstep
      have hX4 := hX.mono hU4 (by simp; omega)
      have hcell := hX4.cell k (by rw [HL.out]; omega)
      have hfree := hX4.free k
      have hB4 := hBB.mono hU4 (by simp)
      go_wp2
      go_roundw
      case rel =>
        refine ⟨k + 1, _, _, by omega, by go_num, hX4.set k _, by rw [List.length_set]; exact HL.out, dX.set k _ hlow, hK4.other _ (by show w.heap.size ≠ w0.heap.size + 1; omega) _, hB4.other _ (by show w.heap.size ≠ w0.heap.size; omega) _, hc', (hU.then hU4 (by simp; omega)).setCell (Or.inl (Nat.le_refl _)) _, ?_, ?_⟩
        · intro j hj
          rw [getD_set_ne _ _ _ _ (by omega)]; exact HZ.out j (by omega)
        · exact add_step X A B k c low c' (by rw [HL.out]; omega) (HZ.out k (Nat.le_refl _)) HE.out HS.out
      case measure => simp [intOf]; omega
    · have hkm : k = B.length + 1 := by omega
      go_wp2_with fail
      have hTl := HL.out
      rw [← hTl]
      refine (trimmed_any _ _ X wr (by omega) (Nat.le_refl _) (by omega) hX.at dX).mono ?_
      rintro e w5 ⟨rfl, a', c', M, rfl, hN, hAt, hl, hc1, hc2⟩
      go_wp2
      go_ret
      subst hkm
      have hv := add_end X A B B.length c (by omega) (by omega) dA dB HE.out
      exact ⟨hU, a', c', M, rfl, hv ▸ hN, hAt, by omega, hc1, hc2⟩

set_option maxHeartbeats 1000000 in
set_option maxRecDepth 100000 in
theorem addLimbs_ge (a b : Option Addr) (ca cb : Nat) (A B : List Nat) (w : World) (hA : A.length ≤ 1000) (hB : B.length ≤ 1000) (HA : At w a A) (HB : At w b B) (dA : Dig A) (dB : Dig B) (hlt : ¬ A.length < B.length) :
    Calls Tryz.prog 151 #[.slice a A.length ca, .slice b B.length cb] w fun e w' =>
      Upd [] w w' ∧ ∃ a' c' M, e = .returned (.slice a' M.length c') ∧ Norm M (val A + val B) ∧ At w' a' M ∧ M.length ≤ A.length + B.length + 1 ∧ M.length ≤ c' ∧ c' ≤ 9223372036854775807 := by
  go_enter Tryz.func151, Tryz.ntmps151
  go_wp2_with (at_make; refine make_u32 _ rfl _ _ rfl _ _ (A.length + 1) rfl rfl (by omega) (by omega) (by omega) ?_; intro w0 hblk hup)
  refine (carrying_any _ _ 1 0 _ rfl rfl (by omega)).mono ?_
  rintro e w1 ⟨rfl, hk, hbb, hup1⟩
  have hg := hblk.lt
  go_wp2_with fail
  go_loopw [18] (fun i wr => ∃ k c : Nat, ∃ X : List Nat, k ≤ A.length + 1 ∧ i = .int .i64 k ∧ Blk wr w.heap.size X ∧ X.length = A.length + 1 ∧ Dig X ∧ One wr (w0.heap.size + 1) .u64 68 c ∧ One wr w0.heap.size .u32 61 1 ∧ c < 4294967296 ∧ Upd [] w wr ∧
      (∀ j, k ≤ j → X.getD j 0 = 0) ∧ val X + 4294967296 ^ k * c = val (A.take k) + val (B.take k)) (fun i _ => A.length + 1 - (intOf i).toNat)
  case atStart =>
    refine ⟨0, 0, List.replicate (A.length + 1) 0, Nat.zero_le _, rfl, hblk.mono hup1 (by simp), by simp, Dig.replicate _, hk, hbb, by omega, hup.trans hup1, ?_, ?_⟩
    · intro j _
      rw [List.getD_eq_getElem?_getD, List.getElem?_replicate]; split <;> rfl
    · rw [val_replicate]; simp [val]
  case round =>
    obtain ⟨k, c, X, hk1, rfl, hX, hXl, dX, hK, hBB, hc, hU, hz, he⟩ := hrel
    have HZ : Hid _ := hz
    have HE : Hid _ := he
    have HL : Hid _ := hXl
    clear hz he hXl hblk hup hk hbb hup1
    by_cases hk2 : k < A.length + 1
    · go_wp2_with fail
      refine (limbAt_any a ca k A wr (by omega) (HA.mono hU)).mono ?_
      rintro e w2 ⟨rfl, rfl⟩
      go_wp2_with fail
      refine (limbAt_any b cb k B w2 (by omega) (HB.mono hU)).mono ?_
      rintro e w3 ⟨rfl, rfl⟩
      go_wp2_with fail
      refine (carrying1_any (A.getD k 0) (B.getD k 0) c 1 _ _ w3 (dA.getD k) (dB.getD k) (by omega) hc hK hBB).mono ?_
      rintro e w4 ⟨low, c', rfl, hlow, hc', hstep, hK4, hU4⟩
      have HS : Hid _ := hstep
      clear hstep
      have hX4 := hX.mono hU4 (by simp; omega)
      have hcell := hX4.cell k (by rw [HL.out]; omega)
      have hfree := hX4.free k
      have hB4 := hBB.mono hU4 (by simp)
      go_wp2
      go_roundw
      case rel =>
        refine ⟨k + 1, _, _, by omega, by go_num, hX4.set k _, by rw [List.length_set]; exact HL.out, dX.set k _ hlow, hK4.other _ (by show w.heap.size ≠ w0.heap.size + 1; omega) _, hB4.other _ (by show w.heap.size ≠ w0.heap.size; omega) _, hc', (hU.then hU4 (by simp; omega)).setCell (Or.inl (Nat.le_refl _)) _, ?_, ?_⟩
        · intro j hj
          rw [getD_set_ne _ _ _ _ (by omega)]; exact HZ.out j (by omega)
        · exact add_step X A B k c low c' (by rw [HL.out]; omega) (HZ.out k (Nat.le_refl _)) HE.out HS.out
      case measure => simp [intOf]; omega
    · have hkm : k = A.length + 1 := by omega
      go_wp2_with fail
      have hTl := HL.out
      rw [← hTl]
      refine (trimmed_any _ _ X wr (by omega) (Nat.le_refl _) (by omega) hX.at dX).mono ?_
      rintro e w5 ⟨rfl, a', c', M, rfl, hN, hAt, hl, hc1, hc2⟩
      go_wp2
      go_ret
      subst hkm
      have hv := add_end X A B A.length c (by omega) (by omega) dA dB HE.out
      exact ⟨hU, a', c', M, rfl, hv ▸ hN, hAt, by omega, hc1, hc2⟩

/-- addLimbs: the sum. -/
theorem addLimbs_any (a b : Option Addr) (ca cb x y : Nat) (A B : List Nat) (w : World) (hA : A.length ≤ 1000) (hB : B.length ≤ 1000) (HA : At w a A) (HB : At w b B) (nA : Norm A x) (nB : Norm B y) :
    Calls Tryz.prog 151 #[.slice a A.length ca, .slice b B.length cb] w fun e w' =>
      Upd [] w w' ∧ ∃ a' c' M, e = .returned (.slice a' M.length c') ∧ Norm M (x + y) ∧ At w' a' M ∧ M.length ≤ A.length + B.length + 1 ∧ M.length ≤ c' ∧ c' ≤ 9223372036854775807 := by
  have h := nA.eq
  have h' := nB.eq
  subst h h'
  by_cases hlt : A.length < B.length
  · exact addLimbs_lt a b ca cb A B w hA hB HA HB nA.dig nB.dig hlt
  · exact addLimbs_ge a b ca cb A B w hA hB HA HB nA.dig nB.dig hlt

end Go.Proofs.YtnpocmhaoaigfaaGreatDoor
