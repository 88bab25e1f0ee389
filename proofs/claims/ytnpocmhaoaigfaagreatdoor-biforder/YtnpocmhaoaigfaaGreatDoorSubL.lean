/- subLimbs, by its contract. -/
import Derived.Test.YtnpocmhaoaigfaaGreatDoorAddL
import Derived.Deep.RegionWith
namespace Go.Proofs.YtnpocmhaoaigfaaGreatDoor
open Go.RowKit

theorem sub_step (X A B : List Nat) (k c low c' : Nat) (hk : k < X.length) (hz : X.getD k 0 = 0) (he : val X + val (B.take k) = val (A.take k) + 4294967296 ^ k * c)
    (h : low + (B.getD k 0 + c) = A.getD k 0 + 4294967296 * c') : val (X.set k low) + val (B.take (k + 1)) = val (A.take (k + 1)) + 4294967296 ^ (k + 1) * c' := by
  have h1 := val_set X k low hk
  rw [hz, Nat.mul_zero, Nat.add_zero] at h1
  have h2 := pow_split k (A.getD k 0) c'
  rw [← h, Nat.mul_add, Nat.mul_add] at h2
  rw [h1, val_take_succ, val_take_succ]
  generalize 4294967296 ^ (k + 1) * c' = t at *
  generalize 4294967296 ^ k * low = u1 at *
  generalize 4294967296 ^ k * B.getD k 0 = u2 at *
  generalize 4294967296 ^ k * A.getD k 0 = u3 at *
  generalize 4294967296 ^ k * c = u4 at *
  omega

theorem sub_end (X A B : List Nat) (c : Nat) (hX : X.length = A.length) (dX : Dig X) (hle : val B ≤ val A) (hl : B.length ≤ A.length)
    (he : val X + val (B.take A.length) = val (A.take A.length) + 4294967296 ^ A.length * c) : val X = val A - val B := by
  rw [val_take_all A _ (Nat.le_refl _), val_take_all B _ hl] at he
  have h1 := val_lt dX
  rw [hX] at h1
  rcases Nat.eq_zero_or_pos c with h | h
  · rw [h, Nat.mul_zero] at he; omega
  · have h6 : 4294967296 ^ A.length * 1 ≤ 4294967296 ^ A.length * c := Nat.mul_le_mul_left _ h
    generalize 4294967296 ^ A.length * c = t at *
    generalize 4294967296 ^ A.length = p at *
    omega

set_option maxHeartbeats 1000000 in
set_option maxRecDepth 100000 in
theorem subLimbs_core (a b : Option Addr) (ca cb : Nat) (A B : List Nat) (w : World) (hA : A.length ≤ 1000) (hB : B.length ≤ A.length) (HA : At w a A) (HB : At w b B) (dA : Dig A) (dB : Dig B) (hle : val B ≤ val A) :
    Calls Tryz.prog 152 #[.slice a A.length ca, .slice b B.length cb] w fun e w' =>
      Upd [] w w' ∧ ∃ a' c' M, e = .returned (.slice a' M.length c') ∧ Norm M (val A - val B) ∧ At w' a' M ∧ M.length ≤ A.length ∧ M.length ≤ c' ∧ c' ≤ 9223372036854775807 ∧ Fresh w.heap.size a' := by
  go_enter Tryz.func152, Tryz.ntmps152
  go_wp2_with (at_make; refine make_u32 _ rfl _ _ rfl _ _ A.length rfl rfl (by omega) (by omega) (by omega) ?_; intro w0 hblk hup)
  refine (borrowing_any _).mono ?_
  rintro e w1 ⟨rfl, hk, hup1⟩
  have hg := hblk.lt
  go_wp2_with fail
  go_loopw [14] (fun i wr => ∃ k c : Nat, ∃ X : List Nat, k ≤ A.length ∧ i = .int .i64 k ∧ Blk wr w.heap.size X ∧ X.length = A.length ∧ Dig X ∧ One wr w0.heap.size .u64 68 c ∧ c ≤ 1 ∧ Upd [] w wr ∧
      (∀ j, k ≤ j → X.getD j 0 = 0) ∧ val X + val (B.take k) = val (A.take k) + 4294967296 ^ k * c) (fun i _ => A.length - (intOf i).toNat)
  case atStart =>
    refine ⟨0, 0, List.replicate A.length 0, Nat.zero_le _, rfl, hblk.mono hup1 (by simp), by simp, Dig.replicate _, hk, by omega, hup.trans hup1, ?_, ?_⟩
    · intro j _
      rw [List.getD_eq_getElem?_getD, List.getElem?_replicate]; split <;> rfl
    · rw [val_replicate]; simp [val]
  case round =>
    obtain ⟨k, c, X, hk1, rfl, hX, hXl, dX, hK, hc, hU, hz, he⟩ := hrel
    have HZ : Hid _ := hz
    have HE : Hid _ := he
    have HL : Hid _ := hXl
    clear hz he hXl hblk hup hk hup1
    by_cases hk2 : k < A.length
    · rcases HA.mono hU with h | ⟨ba, oa, rfl, hlta, hca⟩
      · rw [h] at hk2; simp at hk2
      have hcx := hca k hk2
      obtain ⟨x, hx⟩ : ∃ x, x = A.getD k 0 := ⟨_, rfl⟩
      rw [← hx] at hcx
      have HX : Hid _ := hx
      have hxl : x < 4294967296 := by rw [hx]; exact dA.getD k
      clear hx hca
      obtain ⟨y, hy⟩ : ∃ y, y = B.getD k 0 := ⟨_, rfl⟩
      have HY : Hid _ := hy
      have hyl : y < 4294967296 := by rw [hy]; exact dB.getD k
      have hlim : ∀ W, At W b B → Calls Tryz.prog 148 #[.slice b B.length cb, .int .i64 k] W fun e w' => e = .returned (.int .u32 (y : Nat)) ∧ w' = W := fun W hW => by
        rw [hy]; exact limbAt_any b cb k B W (by omega) hW
      have HLIM : Hid _ := hlim
      have hbl := bDig_lt x y c hxl hyl hc
      clear hy hlim
      go_wp2_with fail
      go_region_with (first
        | (go_at_call 148; refine (HLIM.out _ ?_).mono ?_; (first | exact HB.mono hU | exact HB.mono hU.drew); rintro e w3 ⟨rfl, rfl⟩)
        | (go_at_call 190; refine (borrowing1_any x y c _ _ hxl hyl hc ?_).mono ?_; (exact hK); rintro e w4 ⟨rfl, hK4, hU4⟩; have hX4 := Blk.mono (w := wr.drew) hX hU4 (by simp; omega); have hcell := hX4.cell k (by rw [HL.out]; omega); have hfree := hX4.free k))
      all_goals
        go_wp2
        go_roundw
        case rel =>
          refine ⟨k + 1, _, _, by omega, by go_num, Blk.set (by assumption) k _, by rw [List.length_set]; exact HL.out, dX.set k _ hbl, One.other (by assumption) _ (by show w.heap.size ≠ w0.heap.size; omega) _, bOut_le x y c, (Upd.then hU.drew (by assumption) (by simp; omega)).setCell (Or.inl (Nat.le_refl _)) _, ?_, ?_⟩
          · intro j hj
            rw [getD_set_ne _ _ _ _ (by omega)]; exact HZ.out j (by omega)
          · refine sub_step X A B k c _ _ (by rw [HL.out]; omega) (HZ.out k (Nat.le_refl _)) HE.out ?_
            rw [← HX.out, ← HY.out]
            exact bDig_eq x y c hyl hc
        case measure => simp [intOf]; omega
    · have hkm : k = A.length := by omega
      go_wp2_with fail
      have hTl := HL.out
      rw [← hTl]
      refine (trimmed_new _ _ X wr (by omega) (Nat.le_refl _) (by omega) hX.at dX).mono ?_
      rintro e w5 ⟨rfl, a', c', M, rfl, hN, hAt, hl, hc1, hc2, hfr⟩
      go_wp2
      go_ret
      subst hkm
      have hv := sub_end X A B c HL.out dX hle hB HE.out
      exact ⟨hU, a', c', M, rfl, hv ▸ hN, hAt, by omega, hc1, hc2, by rcases hfr with h | h <;> rw [h]; exact Fresh.nil _; exact Fresh.mem (Nat.le_refl _)⟩

/-- subLimbs: the difference. -/
theorem subLimbs_any (a b : Option Addr) (ca cb x y : Nat) (A B : List Nat) (w : World) (hA : A.length ≤ 1000) (HA : At w a A) (HB : At w b B) (nA : Norm A x) (nB : Norm B y) (hle : y ≤ x) :
    Calls Tryz.prog 152 #[.slice a A.length ca, .slice b B.length cb] w fun e w' =>
      Upd [] w w' ∧ ∃ a' c' M, e = .returned (.slice a' M.length c') ∧ Norm M (x - y) ∧ At w' a' M ∧ M.length ≤ A.length ∧ M.length ≤ c' ∧ c' ≤ 9223372036854775807 ∧ Fresh w.heap.size a' := by
  have hB : B.length ≤ A.length := by
    rcases Nat.lt_or_ge A.length B.length with h | h
    · have := norm_lt_of_len nA nB h; omega
    · exact h
  have h := nA.eq
  have h' := nB.eq
  subst h h'
  exact subLimbs_core a b ca cb A B w hA hB HA HB nA.dig nB.dig hle

end Go.Proofs.YtnpocmhaoaigfaaGreatDoor
