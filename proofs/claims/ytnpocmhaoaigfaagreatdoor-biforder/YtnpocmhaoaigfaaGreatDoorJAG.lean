/- scaled, by its contract. -/
import Derived.Test.YtnpocmhaoaigfaaGreatDoorAddL
import Derived.Test.YtnpocmhaoaigfaaGreatDoorJAA

namespace Go.Proofs.YtnpocmhaoaigfaaGreatDoor
open Go.RowKit

theorem scale_step (X A : List Nat) (k c low c' d m : Nat) (hk : k < X.length) (hz : X.getD k 0 = 0) (he : val X + 4294967296 ^ k * c = d * val (A.take k) + m)
    (h : low + 4294967296 * c' = c + (d * A.getD k 0 + 0)) : val (X.set k low) + 4294967296 ^ (k + 1) * c' = d * val (A.take (k + 1)) + m := by
  rw [carry_step X k c low c' _ hk hz h, he, val_take_succ, Nat.add_zero, Nat.mul_add, Nat.mul_left_comm]
  generalize d * val (A.take k) = p
  generalize d * (4294967296 ^ k * A.getD k 0) = q
  omega

theorem scale_lt (b p d v m : Nat) (hd : d < b) (hv : v < p) (hm : m < b) : d * v + m < p * b := by
  have h1 := Nat.mul_le_mul_right v (Nat.le_of_lt hd)
  have h2 : b * (v + 1) ≤ b * p := Nat.mul_le_mul_left b hv
  rw [Nat.mul_add, Nat.mul_one, Nat.mul_comm b p] at h2
  generalize b * v = t at *
  generalize d * v = u at *
  generalize p * b = q at *
  omega

theorem scale_end (X A : List Nat) (c d m : Nat) (dA : Dig A) (hd : d < 4294967296) (hm : m < 4294967296)
    (he : val X + 4294967296 ^ (A.length + 1) * c = d * val (A.take (A.length + 1)) + m) : val X = d * val A + m := by
  rw [val_take_all A _ (by omega)] at he
  have h5 : d * val A + m < 4294967296 ^ (A.length + 1) := by
    rw [Nat.pow_succ]
    exact scale_lt _ _ _ _ _ hd (val_lt dA) hm
  have h6 := no_carry 0 0 _ c _ _ h5 he
  rw [h6, Nat.mul_zero, Nat.add_zero] at he
  exact he

set_option maxHeartbeats 1000000 in
set_option maxRecDepth 100000 in
theorem scaled_core (a : Option Addr) (ca d m : Nat) (A : List Nat) (w : World) (hA : A.length ≤ 1000) (HA : At w a A) (dA : Dig A) (hd : d < 4294967296) (hm : m < 4294967296) :
    Calls Tryz.prog 154 #[.slice a A.length ca, .int .u32 (d : Nat), .int .u32 (m : Nat)] w fun e w' =>
      Upd [] w w' ∧ ∃ a' c' M, e = .returned (.slice a' M.length c') ∧ Norm M (d * val A + m) ∧ At w' a' M ∧ M.length ≤ A.length + 1 ∧ M.length ≤ c' ∧ c' ≤ 9223372036854775807 := by
  go_enter Tryz.func154, Tryz.ntmps154
  go_wp2_with (at_make; refine make_u32 _ rfl _ _ rfl _ _ (A.length + 1) rfl rfl (by omega) (by omega) (by omega) ?_; intro w0 hblk hup)
  refine (carrying_any _ _ d m _ rfl rfl hm).mono ?_
  rintro e w1 ⟨rfl, hk, hbb, hup1⟩
  have hg := hblk.lt
  go_wp2_with fail
  go_loopw [19] (fun i wr => ∃ k c : Nat, ∃ X : List Nat, k ≤ A.length + 1 ∧ i = .int .i64 k ∧ Blk wr w.heap.size X ∧ X.length = A.length + 1 ∧ Dig X ∧ One wr (w0.heap.size + 1) .u64 68 c ∧ One wr w0.heap.size .u32 61 d ∧ c < 4294967296 ∧ Upd [] w wr ∧
      (∀ j, k ≤ j → X.getD j 0 = 0) ∧ val X + 4294967296 ^ k * c = d * val (A.take k) + m) (fun i _ => A.length + 1 - (intOf i).toNat)
  case atStart =>
    refine ⟨0, m, List.replicate (A.length + 1) 0, Nat.zero_le _, rfl, hblk.mono hup1 (by simp), by simp, Dig.replicate _, hk, hbb, hm, hup.trans hup1, ?_, ?_⟩
    · intro j _
      rw [List.getD_eq_getElem?_getD, List.getElem?_replicate]; split <;> rfl
    · rw [val_replicate]; simp [val]
  case round =>
    obtain ⟨k, c, X, hk1, rfl, hX, hXl, dX, hK, hBB, hc, hU, hz, he⟩ := hrel
    have HZ : Hid _ := hz
    have HE : Hid _ := he
    have HL : Hid _ := hXl
    clear hz he hXl hblk hup hk hbb hup1
    by_cases hk2 : k < A.length + 1
    · go_wp2_with fail
      refine (limbAt_any a ca k A wr (by omega) (HA.mono hU)).mono ?_
      rintro e w3 ⟨rfl, rfl⟩
      go_wp2_with fail
      refine (carrying1_any (A.getD k 0) 0 c d _ _ w3 (dA.getD k) (by omega) hd hc hK hBB).mono ?_
      rintro e w4 ⟨low, c', rfl, hlow, hc', hstep, hK4, hU4⟩
      have HS : Hid _ := hstep
      clear hstep
      have hX4 := hX.mono hU4 (by simp; omega)
      have hcell := hX4.cell k (by rw [HL.out]; omega)
      have hfree := hX4.free k
      have hB4 := hBB.mono hU4 (by simp)
      go_wp2
      go_roundw
      case rel =>
        refine ⟨k + 1, _, _, by omega, by go_num, hX4.set k _, by rw [List.length_set]; exact HL.out, dX.set k _ hlow, hK4.other _ (by show w.heap.size ≠ w0.heap.size + 1; omega) _, hB4.other _ (by show w.heap.size ≠ w0.heap.size; omega) _, hc', (hU.then hU4 (by simp; omega)).setCell (Or.inl (Nat.le_refl _)) _, ?_, ?_⟩
        · intro j hj
          rw [getD_set_ne _ _ _ _ (by omega)]; exact HZ.out j (by omega)
        · exact scale_step X A k c low c' d m (by rw [HL.out]; omega) (HZ.out k (Nat.le_refl _)) HE.out HS.out
      case measure => simp [intOf]; omega
    · have hkm : k = A.length + 1 := by omega
      go_wp2_with fail
      have hTl := HL.out
      rw [← hTl]
      refine (trimmed_any _ _ X wr (by omega) (Nat.le_refl _) (by omega) hX.at dX).mono ?_
      rintro e w5 ⟨rfl, a', c', M, rfl, hN, hAt, hl, hc1, hc2⟩
      go_wp2
      go_ret
      subst hkm
      have hv := scale_end X A c d m dA hd hm HE.out
      exact ⟨hU, a', c', M, rfl, hv ▸ hN, hAt, by omega, hc1, hc2⟩

/-- scaled: a times by, and more. -/
theorem scaled_any (a : Option Addr) (D E : Int) (ca d m x : Nat) (A : List Nat) (w : World) (hD : D = (d : Int)) (hE : E = (m : Int)) (hA : A.length ≤ 1000) (HA : At w a A) (nA : Norm A x) (hd : d < 4294967296) (hm : m < 4294967296) :
    Calls Tryz.prog 154 #[.slice a A.length ca, .int .u32 D, .int .u32 E] w fun e w' =>
      Upd [] w w' ∧ ∃ a' c' M, e = .returned (.slice a' M.length c') ∧ Norm M (d * x + m) ∧ At w' a' M ∧ M.length ≤ A.length + 1 ∧ M.length ≤ c' ∧ c' ≤ 9223372036854775807 := by
  have h := nA.eq
  subst h hD hE
  exact scaled_core a ca d m A w hA HA nA.dig hd hm

end Go.Proofs.YtnpocmhaoaigfaaGreatDoor

/- The contract of the closure that divides. -/
namespace Go.Proofs.YtnpocmhaoaigfaaGreatDoor
open Go.RowKit

theorem quo_wrap (V d : Nat) (hq : V / d < 4294967296) : IntKind.u64.wrap ((V : Int) / (d : Int)) % 4294967296 = ((V / d : Nat) : Int) := by
  have e : (V : Int) / (d : Int) = ((V / d : Nat) : Int) := by simp
  rw [e]
  generalize V / d = q at *
  simp only [IntKind.wrap_u64]
  omega

set_option maxHeartbeats 400000 in
theorem dividing1_core (x c d V bk bb : Nat) (w : World) (hd0 : 0 < d) (hd : d < 4294967296) (hx : x < 4294967296) (hc : c < 4294967296)
    (hk : w.cell? ⟨bk, 0, none⟩ = some (.int .u64 (c : Nat))) (hkf : w.frozen? ⟨bk, 0, none⟩ = false) (_hbb : w.cell? ⟨bb, 0, none⟩ = some (.int .u32 (d : Nat)))
    (hoth : ∀ v, (w.setCell ⟨bk, 0, none⟩ v).cell? ⟨bb, 0, none⟩ = some (.int .u32 (d : Nat))) (hr : V % d < d)
    (hor : bits BinOp.or IntKind.u64 ((c : Int) * 4294967296) (x : Int) = (V : Nat)) :
    Calls Tryz.prog 125 #[.int .u32 (x : Nat), .pointer (some ⟨bk, 0, none⟩), .pointer (some ⟨bb, 0, none⟩)] w fun e w' =>
      e = .returned (.tuple #[.int .u32 (IntKind.u64.wrap ((V : Int) / (d : Int)) % 4294967296), .int .u32 ((V % d : Nat))]) ∧ w' = (w.setCell ⟨bk, 0, none⟩ (.int .u64 ((V % d : Nat)))).drew := by
  go_enter Tryz.func125, Tryz.ntmps125
  go_wp2
  go_region
  all_goals go_wp2
  all_goals go_ret2
  all_goals rw [setCell_twice]
  all_goals exact ⟨by simp, by simp⟩

/-- dividing's closure: the digit, and what is left over. -/
theorem dividing1_any (x c d bk bb : Nat) (w : World) (hx : x < 4294967296) (hd : d < 4294967296) (hcc : c < d) (Hk : One w bk .u64 68 c) (Hb : One w bb .u32 61 d) (hne : bk ≠ bb) :
    Calls Tryz.prog 125 #[.int .u32 (x : Nat), .pointer (some ⟨bk, 0, none⟩), .pointer (some ⟨bb, 0, none⟩)] w fun e w' =>
      e = .returned (.tuple #[.int .u32 (((c * 4294967296 + x) / d : Nat)), .int .u32 (((c * 4294967296 + x) % d : Nat))]) ∧ One w' bk .u64 68 ((c * 4294967296 + x) % d) ∧ Upd [bk] w w' := by
  refine (dividing1_core x c d (c * 4294967296 + x) bk bb w (by omega) hd hx (by omega) Hk.cell Hk.free Hb.cell
    (fun v => (World.cell?_setCell_other _ _ _ _ (by simp)).trans Hb.cell) (Nat.mod_lt _ (by omega)) (or_shift c x (by omega) hx)).mono ?_
  rintro e w' ⟨rfl, rfl⟩
  rw [quo_wrap _ _ (quo_lt x c d hx hcc)]
  exact ⟨rfl, One.set Hk _, ((Upd.refl _ _).setCell (Or.inr (by simp)) _).drew⟩

end Go.Proofs.YtnpocmhaoaigfaaGreatDoor
