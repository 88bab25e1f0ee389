/- divByLimb, by its contract. -/
import Derived.Test.YtnpocmhaoaigfaaGreatDoorAddL
import Derived.Test.YtnpocmhaoaigfaaGreatDoorJAG
namespace Go.Proofs.YtnpocmhaoaigfaaGreatDoor
open Go.RowKit

/-- A slice that lies in a row of limbs of somebody's own. -/
def Typed (w : World) (a : Option Addr) : Prop := ∀ p, a = some p → ∃ cs, w.heap[p.block]? = some (.cells cs 61 (0, 0))
theorem Typed.nil (w : World) : Typed w none := fun _ h => by cases h
theorem Typed.blk {w : World} {g o : Nat} {X : List Nat} (h : Blk w g X) : Typed w (some ⟨g, o, none⟩) := fun p e => by cases e; exact ⟨_, h⟩

theorem drop_set_self (X : List Nat) (i q : Nat) (hi : i < X.length) : (X.set i q).drop i = q :: X.drop (i + 1) := by
  have h : i < (X.set i q).length := by simpa using hi
  rw [List.drop_eq_getElem_cons h, List.drop_set_of_lt (by omega)]
  simp

theorem div_step (X A : List Nat) (i c d : Nat) (hX : i < X.length) (hA : i < A.length) (he : val (X.drop (i + 1)) * d + c = val (A.drop (i + 1))) :
    val ((X.set i ((c * 4294967296 + A.getD i 0) / d)).drop i) * d + (c * 4294967296 + A.getD i 0) % d = val (A.drop i) := by
  rw [drop_set_self X i _ hX, val_cons, val_drop A i hA, ← he, Nat.add_mul, Nat.mul_assoc]
  have h := Nat.div_add_mod (c * 4294967296 + A.getD i 0) d
  rw [Nat.mul_comm] at h
  generalize (c * 4294967296 + A.getD i 0) / d * d = u1 at *
  generalize (c * 4294967296 + A.getD i 0) % d = u2 at *
  generalize val (X.drop (i + 1)) * d = u3 at *
  omega

theorem div_end (q d c a : Nat) (hc : c < d) (h : q * d + c = a) : q = a / d ∧ c = a % d := by
  subst h
  have hd : 0 < d := by omega
  rw [Nat.mul_comm q d, Nat.mul_add_div hd, Nat.mul_add_mod, Nat.div_eq_of_lt hc, Nat.mod_eq_of_lt hc]
  exact ⟨by omega, rfl⟩

set_option maxHeartbeats 1000000 in
set_option maxRecDepth 100000 in
theorem divByLimb_core2 (a : Option Addr) (ca d : Nat) (A : List Nat) (w : World) (hA : A.length ≤ 1000) (HA : At w a A) (dA : Dig A) (hd0 : 0 < d) (hd : d < 4294967296) :
    Calls Tryz.prog 57 #[.slice a A.length ca, .int .u32 (d : Nat)] w fun e w' =>
      Upd [] w w' ∧ ∃ a' c' M, e = .returned (.tuple #[.slice a' M.length c', .int .u32 ((val A % d : Nat))]) ∧ Norm M (val A / d) ∧ At w' a' M ∧ M.length ≤ A.length ∧ M.length ≤ c' ∧ c' ≤ 9223372036854775807 ∧ Typed w' a' := by
  go_enter Tryz.func57, Tryz.ntmps57
  go_wp2_with (at_make; refine make_u32 _ rfl _ _ rfl _ _ A.length rfl rfl (by omega) (by omega) (by omega) ?_; intro w0 hblk hup)
  refine (dividing_any _ d _ rfl).mono ?_
  rintro e w1 ⟨rfl, hk, hbb, hup1⟩
  have hg := hblk.lt
  go_wp2_with fail
  go_loopw [5, 16] (fun r i wr => ∃ k c : Nat, ∃ X : List Nat, k ≤ A.length ∧ i = .int .i64 k ∧ r = .int .u32 c ∧ Blk wr w.heap.size X ∧ X.length = A.length ∧ Dig X ∧ One wr (w0.heap.size + 1) .u64 68 c ∧ One wr w0.heap.size .u32 61 d ∧ c < d ∧ Upd [] w wr ∧
      val (X.drop (A.length - k)) * d + c = val (A.drop (A.length - k))) (fun _ i _ => A.length - (intOf i).toNat)
  case atStart =>
    refine ⟨0, 0, List.replicate A.length 0, Nat.zero_le _, rfl, rfl, hblk.mono hup1 (by simp), by simp, Dig.replicate _, hk, hbb, hd0, hup.trans hup1, ?_⟩
    rw [Nat.sub_zero, List.drop_of_length_le (by simp), List.drop_of_length_le (Nat.le_refl _)]; simp [val]
  case round =>
    obtain ⟨k, c, X, hk1, rfl, rfl, hX, hXl, dX, hK, hBB, hc, hU, he⟩ := hrel
    have HE : Hid _ := he
    have HL : Hid _ := hXl
    clear he hXl hblk hup hk hbb hup1
    by_cases hk2 : k < A.length
    · rcases HA.mono hU with h | ⟨ba, oa, rfl, hlta, hca⟩
      · rw [h] at hk2; simp at hk2
      have hcx := hca (A.length - 1 - k) (by omega)
      obtain ⟨x, hx⟩ : ∃ x, x = A.getD (A.length - 1 - k) 0 := ⟨_, rfl⟩
      rw [← hx] at hcx
      have HX : Hid _ := hx
      have hxl : x < 4294967296 := by rw [hx]; exact dA.getD _
      clear hx hca
      have HI : Hid (A.length - 1 - k + 1 = A.length - k) := by show _ = _; omega
      go_wp2_with fail
      refine (dividing1_any x c d _ _ wr hxl hd hc hK hBB (by omega)).mono ?_
      rintro e w4 ⟨rfl, hK4, hU4⟩
      have hq := quo_lt x c d hxl hc
      have hr := Nat.mod_lt (c * 4294967296 + x) hd0
      have HD : Hid _ := div_step X A (A.length - 1 - k) c d (by rw [HL.out]; omega) (by omega) (by rw [HI.out]; exact HE.out)
      rw [← HX.out] at HD
      generalize (c * 4294967296 + x) / d = q at *
      generalize (c * 4294967296 + x) % d = r at *
      have hX4 := hX.mono hU4 (by simp; omega)
      have hcell := hX4.cell (A.length - 1 - k) (by rw [HL.out]; omega)
      have hfree := hX4.free (A.length - 1 - k)
      have hB4 := hBB.mono hU4 (by simp)
      go_wp2
      go_roundw
      case rel =>
        refine ⟨k + 1, _, _, by omega, by go_num, rfl, hX4.set _ _, by rw [List.length_set]; exact HL.out, dX.set _ _ hq, hK4.other _ (by show w.heap.size ≠ w0.heap.size + 1; omega) _, hB4.other _ (by show w.heap.size ≠ w0.heap.size; omega) _, hr, (hU.then hU4 (by simp; omega)).setCell (Or.inl (Nat.le_refl _)) _, ?_⟩
        rw [show A.length - (k + 1) = A.length - 1 - k by omega]
        exact HD.out
      case measure => simp [intOf]; omega
    · have hkm : k = A.length := by omega
      go_wp2_with fail
      have hTl := HL.out
      rw [← hTl]
      refine (trimmed_new _ _ X wr (by omega) (Nat.le_refl _) (by omega) hX.at dX).mono ?_
      rintro e w5 ⟨rfl, a', c', M, rfl, hN, hAt, hl, hc1, hc2, hfr⟩
      go_wp2
      go_ret2
      have hv := HE.out
      rw [hkm, Nat.sub_self, List.drop_zero, List.drop_zero] at hv
      obtain ⟨e1, e2⟩ := div_end _ _ _ _ hc hv
      exact ⟨hU, a', c', M, by rw [← e2]; rfl, e1 ▸ hN, hAt, by omega, hc1, hc2, by rcases hfr with h | h <;> rw [h]; exact Typed.nil _; exact Typed.blk hX⟩

/-- divByLimb: quotient and rest. -/
theorem divByLimb_new (a : Option Addr) (D : Int) (ca d x : Nat) (A : List Nat) (w : World) (hD : D = (d : Int)) (hA : A.length ≤ 1000) (HA : At w a A) (nA : Norm A x) (hd0 : 0 < d) (hd : d < 4294967296) :
    Calls Tryz.prog 57 #[.slice a A.length ca, .int .u32 D] w fun e w' =>
      Upd [] w w' ∧ ∃ a' c' M, e = .returned (.tuple #[.slice a' M.length c', .int .u32 ((x % d : Nat))]) ∧ Norm M (x / d) ∧ At w' a' M ∧ M.length ≤ A.length ∧ M.length ≤ c' ∧ c' ≤ 9223372036854775807 ∧ Typed w' a' := by
  have h := nA.eq
  subst h hD
  exact divByLimb_core2 a ca d A w hA HA nA.dig hd0 hd

theorem divByLimb_any (a : Option Addr) (D : Int) (ca d x : Nat) (A : List Nat) (w : World) (hD : D = (d : Int)) (hA : A.length ≤ 1000) (HA : At w a A) (nA : Norm A x) (hd0 : 0 < d) (hd : d < 4294967296) :
    Calls Tryz.prog 57 #[.slice a A.length ca, .int .u32 D] w fun e w' =>
      Upd [] w w' ∧ ∃ a' c' M, e = .returned (.tuple #[.slice a' M.length c', .int .u32 ((x % d : Nat))]) ∧ Norm M (x / d) ∧ At w' a' M ∧ M.length ≤ A.length ∧ M.length ≤ c' ∧ c' ≤ 9223372036854775807 := by
  refine (divByLimb_new a D ca d x A w hD hA HA nA hd0 hd).mono ?_
  rintro e w' ⟨h0, a', c', M, h1, h2, h3, h4, h5, h6, _⟩
  exact ⟨h0, a', c', M, h1, h2, h3, h4, h5, h6⟩

end Go.Proofs.YtnpocmhaoaigfaaGreatDoor
