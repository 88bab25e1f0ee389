/- addLimbs, by its contract. -/
import Derived.Test.YtpjlhpopoacjdaaDoorTrim
import Derived.Test.YtpjlhpopoacjdaaDoorLeaf

namespace Go.Proofs.YtpjlhpopoacjdaaDoor
open Go.RowKit

theorem pow_split (k x y : Nat) : 4294967296 ^ k * (x + 4294967296 * y) = 4294967296 ^ k * x + 4294967296 ^ (k + 1) * y := by
  rw [Nat.mul_add, Nat.pow_succ, Nat.mul_assoc]

theorem getD_set_ne (X : List Nat) (k d j : Nat) (h : j ≠ k) : (X.set k d).getD j 0 = X.getD j 0 := by
  rw [List.getD_eq_getElem?_getD, List.getD_eq_getElem?_getD, List.getElem?_set_ne (by omega)]

/-- One step of a sum. -/
theorem carry_step (X : List Nat) (k c low c' t : Nat) (hk : k < X.length) (hz : X.getD k 0 = 0) (h : low + 4294967296 * c' = c + t) :
    val (X.set k low) + 4294967296 ^ (k + 1) * c' = val X + 4294967296 ^ k * c + 4294967296 ^ k * t := by
  have h1 := val_set X k low hk
  rw [hz, Nat.mul_zero, Nat.add_zero] at h1
  rw [h1, Nat.add_assoc, Nat.add_assoc, ← pow_split, h, Nat.mul_add]

theorem add_step (X A B : List Nat) (k c low c' : Nat) (hk : k < X.length) (hz : X.getD k 0 = 0) (he : val X + 4294967296 ^ k * c = val (A.take k) + val (B.take k))
    (h : low + 4294967296 * c' = c + (1 * A.getD k 0 + B.getD k 0)) :
    val (X.set k low) + 4294967296 ^ (k + 1) * c' = val (A.take (k + 1)) + val (B.take (k + 1)) := by
  rw [carry_step X k c low c' _ hk hz h, he, val_take_succ, val_take_succ, Nat.one_mul, Nat.mul_add]
  generalize 4294967296 ^ k = p
  omega

/-- Nothing is carried beyond the end. -/
theorem no_carry (_b _p P c vx s : Nat) (h1 : s < P) (he : vx + P * c = s) : c = 0 := by
  rcases Nat.eq_zero_or_pos c with h | h
  · exact h
  · have h6 : P * 1 ≤ P * c := Nat.mul_le_mul_left _ h
    generalize P * c = t at *
    omega

theorem two_lt (b p x y : Nat) (hb : 2 ≤ b) (hx : x < p) (hy : y < p) : x + y < p * b := by
  have := Nat.mul_le_mul_left p hb
  generalize p * b = t at *
  omega

theorem add_end (X A B : List Nat) (m c : Nat) (hA : A.length ≤ m) (hB : B.length ≤ m) (dA : Dig A) (dB : Dig B)
    (he : val X + 4294967296 ^ (m + 1) * c = val (A.take (m + 1)) + val (B.take (m + 1))) : val X = val A + val B := by
  rw [val_take_all A _ (by omega), val_take_all B _ (by omega)] at he
  have h3 : 4294967296 ^ A.length ≤ 4294967296 ^ m := Nat.pow_le_pow_right (by decide) hA
  have h4 : 4294967296 ^ B.length ≤ 4294967296 ^ m := Nat.pow_le_pow_right (by decide) hB
  have h5 : val A + val B < 4294967296 ^ (m + 1) := by
    rw [Nat.pow_succ]
    exact two_lt _ _ _ _ (by decide) (Nat.lt_of_lt_of_le (val_lt dA) h3) (Nat.lt_of_lt_of_le (val_lt dB) h4)
  have h6 := no_carry 0 0 _ c _ _ h5 he
  rw [h6, Nat.mul_zero, Nat.add_zero] at he
  exact he

set_option maxHeartbeats 1000000 in
set_option maxRecDepth 100000 in
theorem addLimbs_lt (a b : Option Addr) (ca cb : Nat) (A B : List Nat) (w : World) (hA : A.length ≤ 1000) (hB : B.length ≤ 1000) (HA : At w a A) (HB : At w b B) (dA : Dig A) (dB : Dig B) (hlt : A.length < B.length) :
    Calls Tryd.prog 66 #[.slice a A.length ca, .slice b B.length cb] w fun e w' =>
      Upd [] w w' ∧ ∃ a' c' M, e = .returned (.slice a' M.length c') ∧ Norm M (val A + val B) ∧ At w' a' M ∧ M.length ≤ A.length + B.length + 1 ∧ M.length ≤ c' ∧ c' ≤ 9223372036854775807 := by
  go_enter Tryd.func66, Tryd.ntmps66
  go_wp2_with (at_make; refine make_u32 _ rfl _ _ rfl _ _ (B.length + 1) rfl rfl (by omega) (by omega) (by omega) ?_; intro w0 hblk hup)
  refine (carrying_any _ _ 1 0 _ rfl rfl (by omega)).mono ?_
  rintro e w1 ⟨rfl, hk, hbb, hup1⟩
  have hg := hblk.lt
  go_wp2_with fail
  go_loopw [18] (fun i wr => ∃ k c : Nat, ∃ X : List Nat, k ≤ B.length + 1 ∧ i = .int .i64 k ∧ Blk wr w.heap.size X ∧ X.length = B.length + 1 ∧ Dig X ∧ One wr (w0.heap.size + 1) .u64 52 c ∧ One wr w0.heap.size .u32 53 1 ∧ c < 4294967296 ∧ Upd [] w wr ∧
      (∀ j, k ≤ j → X.getD j 0 = 0) ∧ val X + 4294967296 ^ k * c = val (A.take k) + val (B.take k)) (fun i _ => B.length + 1 - (intOf i).toNat)
  case atStart =>
    refine ⟨0, 0, List.replicate (B.length + 1) 0, Nat.zero_le _, rfl, hblk.mono hup1 (by simp), by simp, Dig.replicate _, hk, hbb, by omega, hup.trans hup1, ?_, ?_⟩
    · intro j _
      rw [List.getD_eq_getElem?_getD, List.getElem?_replicate]; split <;> rfl
    · rw [val_replicate]; simp [val]
  case round =>
    obtain ⟨k, c, X, hk1, rfl, hX, hXl, dX, hK, hBB, hc, hU, hz, he⟩ := hrel
    have HZ : Hid _ := hz
    have HE : Hid _ := he
    have HL : Hid _ := hXl
    clear hz he hXl hblk hup hk hbb hup1
    by_cases hk2 : k < B.length + 1
    · go_wp2_with fail
      refine (limbAt_any a ca k A wr (by omega) (HA.mono hU)).mono ?_
      rintro e w2 ⟨rfl, rfl⟩
      go_wp2_with fail
      refine (limbAt_any b cb k B w2 (by omega) (HB.mono hU)).mono ?_
      rintro e w3 ⟨rfl, rfl⟩
      go_wp2_with fail
      refine (carrying1_any (A.getD k 0) (B.getD k 0) c 1 _ _ w3 (dA.getD k) (dB.getD k) (by omega) hc hK hBB).mono ?_
      rintro e w4 ⟨low, c', rfl, hlow, hc', hstep, hK4, hU4⟩
      have HS : Hid _ := hstep
      clear hstep
      have hX4 := hX.mono hU4 (by simp; omega)
      have hcell := hX4.cell k (by rw [HL.out]; omega)
      have hfree := hX4.free k
      have hB4 := hBB.mono hU4 (by simp)
      go_wp2
      go_roundw
      case rel =>
        refine ⟨k + 1, _, _, by omega, by go_num, hX4.set k _, by rw [List.length_set]; exact HL.out, dX.set k _ hlow, hK4.other _ (by show w.heap.size ≠ w0.heap.size + 1; omega) _, hB4.other _ (by show w.heap.size ≠ w0.heap.size; omega) _, hc', (hU.then hU4 (by simp; omega)).setCell (Or.inl (Nat.le_refl _)) _, ?_, ?_⟩
        · intro j hj
          rw [getD_set_ne _ _ _ _ (by omega)]; exact HZ.out j (by omega)
        · exact add_step X A B k c low c' (by rw [HL.out]; omega) (HZ.out k (Nat.le_refl _)) HE.out HS.out
      case measure => simp [intOf]; omega
    · have hkm : k = B.length + 1 := by omega
      go_wp2_with fail
      have hTl := HL.out
      rw [← hTl]
      refine (trimmed_any _ _ X wr (by omega) (Nat.le_refl _) (by omega) hX.at dX).mono ?_
      rintro e w5 ⟨rfl, a', c', M, rfl, hN, hAt, hl, hc1, hc2⟩
      go_wp2
      go_ret
      subst hkm
      have hv := add_end X A B B.length c (by omega) (by omega) dA dB HE.out
      exact ⟨hU, a', c', M, rfl, hv ▸ hN, hAt, by omega, hc1, hc2⟩

set_option maxHeartbeats 1000000 in
set_option maxRecDepth 100000 in
theorem addLimbs_ge (a b : Option Addr) (ca cb : Nat) (A B : List Nat) (w : World) (hA : A.length ≤ 1000) (hB : B.length ≤ 1000) (HA : At w a A) (HB : At w b B) (dA : Dig A) (dB : Dig B) (hlt : ¬ A.length < B.length) :
    Calls Tryd.prog 66 #[.slice a A.length ca, .slice b B.length cb] w fun e w' =>
      Upd [] w w' ∧ ∃ a' c' M, e = .returned (.slice a' M.length c') ∧ Norm M (val A + val B) ∧ At w' a' M ∧ M.length ≤ A.length + B.length + 1 ∧ M.length ≤ c' ∧ c' ≤ 9223372036854775807 := by
  go_enter Tryd.func66, Tryd.ntmps66
  go_wp2_with (at_make; refine make_u32 _ rfl _ _ rfl _ _ (A.length + 1) rfl rfl (by omega) (by omega) (by omega) ?_; intro w0 hblk hup)
  refine (carrying_any _ _ 1 0 _ rfl rfl (by omega)).mono ?_
  rintro e w1 ⟨rfl, hk, hbb, hup1⟩
  have hg := hblk.lt
  go_wp2_with fail
  go_loopw [18] (fun i wr => ∃ k c : Nat, ∃ X : List Nat, k ≤ A.length + 1 ∧ i = .int .i64 k ∧ Blk wr w.heap.size X ∧ X.length = A.length + 1 ∧ Dig X ∧ One wr (w0.heap.size + 1) .u64 52 c ∧ One wr w0.heap.size .u32 53 1 ∧ c < 4294967296 ∧ Upd [] w wr ∧
      (∀ j, k ≤ j → X.getD j 0 = 0) ∧ val X + 4294967296 ^ k * c = val (A.take k) + val (B.take k)) (fun i _ => A.length + 1 - (intOf i).toNat)
  case atStart =>
    refine ⟨0, 0, List.replicate (A.length + 1) 0, Nat.zero_le _, rfl, hblk.mono hup1 (by simp), by simp, Dig.replicate _, hk, hbb, by omega, hup.trans hup1, ?_, ?_⟩
    · intro j _
      rw [List.getD_eq_getElem?_getD, List.getElem?_replicate]; split <;> rfl
    · rw [val_replicate]; simp [val]
  case round =>
    obtain ⟨k, c, X, hk1, rfl, hX, hXl, dX, hK, hBB, hc, hU, hz, he⟩ := hrel
    have HZ : Hid _ := hz
    have HE : Hid _ := he
    have HL : Hid _ := hXl
    clear hz he hXl hblk hup hk hbb hup1
    by_cases hk2 : k < A.length + 1
    · go_wp2_with fail
      refine (limbAt_any a ca k A wr (by omega) (HA.mono hU)).mono ?_
      rintro e w2 ⟨rfl, rfl⟩
      go_wp2_with fail
      refine (limbAt_any b cb k B w2 (by omega) (HB.mono hU)).mono ?_
      rintro e w3 ⟨rfl, rfl⟩
      go_wp2_with fail
      refine (carrying1_any (A.getD k 0) (B.getD k 0) c 1 _ _ w3 (dA.getD k) (dB.getD k) (by omega) hc hK hBB).mono ?_
      rintro e w4 ⟨low, c', rfl, hlow, hc', hstep, hK4, hU4⟩
      have HS : Hid _ := hstep
      clear hstep
      have hX4 := hX.mono hU4 (by simp; omega)
      have hcell := hX4.cell k (by rw [HL.out]; omega)
      have hfree := hX4.free k
      have hB4 := hBB.mono hU4 (by simp)
      go_wp2
      go_roundw
      case rel =>
        refine ⟨k + 1, _, _, by omega, by go_num, hX4.set k _, by rw [List.length_set]; exact HL.out, dX.set k _ hlow, hK4.other _ (by show w.heap.size ≠ w0.heap.size + 1; omega) _, hB4.other _ (by show w.heap.size ≠ w0.heap.size; omega) _, hc', (hU.then hU4 (by simp; omega)).setCell (Or.inl (Nat.le_refl _)) _, ?_, ?_⟩
        · intro j hj
          rw [getD_set_ne _ _ _ _ (by omega)]; exact HZ.out j (by omega)
        · exact add_step X A B k c low c' (by rw [HL.out]; omega) (HZ.out k (Nat.le_refl _)) HE.out HS.out
      case measure => simp [intOf]; omega
    · have hkm : k = A.length + 1 := by omega
      go_wp2_with fail
      have hTl := HL.out
      rw [← hTl]
      refine (trimmed_any _ _ X wr (by omega) (Nat.le_refl _) (by omega) hX.at dX).mono ?_
      rintro e w5 ⟨rfl, a', c', M, rfl, hN, hAt, hl, hc1, hc2⟩
      go_wp2
      go_ret
      subst hkm
      have hv := add_end X A B A.length c (by omega) (by omega) dA dB HE.out
      exact ⟨hU, a', c', M, rfl, hv ▸ hN, hAt, by omega, hc1, hc2⟩

/-- addLimbs: the sum. -/
theorem addLimbs_any (a b : Option Addr) (ca cb x y : Nat) (A B : List Nat) (w : World) (hA : A.length ≤ 1000) (hB : B.length ≤ 1000) (HA : At w a A) (HB : At w b B) (nA : Norm A x) (nB : Norm B y) :
    Calls Tryd.prog 66 #[.slice a A.length ca, .slice b B.length cb] w fun e w' =>
      Upd [] w w' ∧ ∃ a' c' M, e = .returned (.slice a' M.length c') ∧ Norm M (x + y) ∧ At w' a' M ∧ M.length ≤ A.length + B.length + 1 ∧ M.length ≤ c' ∧ c' ≤ 9223372036854775807 := by
  have h := nA.eq
  have h' := nB.eq
  subst h h'
  by_cases hlt : A.length < B.length
  · exact addLimbs_lt a b ca cb A B w hA hB HA HB nA.dig nB.dig hlt
  · exact addLimbs_ge a b ca cb A B w hA hB HA HB nA.dig nB.dig hlt

end Go.Proofs.YtpjlhpopoacjdaaDoor

/- The contract of the closure that divides. -/
namespace Go.Proofs.YtpjlhpopoacjdaaDoor
open Go.RowKit

theorem quo_wrap (V d : Nat) (hq : V / d < 4294967296) : IntKind.u64.wrap ((V : Int) / (d : Int)) % 4294967296 = ((V / d : Nat) : Int) := by
  have e : (V : Int) / (d : Int) = ((V / d : Nat) : Int) := by simp
  rw [e]
  generalize V / d = q at *
  simp only [IntKind.wrap_u64]
  omega

set_option maxHeartbeats 400000 in
theorem dividing1_core (x c d V bk bb : Nat) (w : World) (hd0 : 0 < d) (hd : d < 4294967296) (hx : x < 4294967296) (hc : c < 4294967296)
    (hk : w.cell? ⟨bk, 0, none⟩ = some (.int .u64 (c : Nat))) (hkf : w.frozen? ⟨bk, 0, none⟩ = false) (_hbb : w.cell? ⟨bb, 0, none⟩ = some (.int .u32 (d : Nat)))
    (hoth : ∀ v, (w.setCell ⟨bk, 0, none⟩ v).cell? ⟨bb, 0, none⟩ = some (.int .u32 (d : Nat))) (hr : V % d < d)
    (hor : bits BinOp.or IntKind.u64 ((c : Int) * 4294967296) (x : Int) = (V : Nat)) :
    Calls Tryd.prog 90 #[.int .u32 (x : Nat), .pointer (some ⟨bk, 0, none⟩), .pointer (some ⟨bb, 0, none⟩)] w fun e w' =>
      e = .returned (.tuple #[.int .u32 (IntKind.u64.wrap ((V : Int) / (d : Int)) % 4294967296), .int .u32 ((V % d : Nat))]) ∧ w' = (w.setCell ⟨bk, 0, none⟩ (.int .u64 ((V % d : Nat)))).drew := by
  go_enter Tryd.func90, Tryd.ntmps90
  go_wp2
  go_region
  all_goals go_wp2
  all_goals go_ret2
  all_goals rw [setCell_twice]
  all_goals exact ⟨by simp, by simp⟩

/-- dividing's closure: the digit, and what is left over. -/
theorem dividing1_any (x c d bk bb : Nat) (w : World) (hx : x < 4294967296) (hd : d < 4294967296) (hcc : c < d) (Hk : One w bk .u64 52 c) (Hb : One w bb .u32 53 d) (hne : bk ≠ bb) :
    Calls Tryd.prog 90 #[.int .u32 (x : Nat), .pointer (some ⟨bk, 0, none⟩), .pointer (some ⟨bb, 0, none⟩)] w fun e w' =>
      e = .returned (.tuple #[.int .u32 (((c * 4294967296 + x) / d : Nat)), .int .u32 (((c * 4294967296 + x) % d : Nat))]) ∧ One w' bk .u64 52 ((c * 4294967296 + x) % d) ∧ Upd [bk] w w' := by
  refine (dividing1_core x c d (c * 4294967296 + x) bk bb w (by omega) hd hx (by omega) Hk.cell Hk.free Hb.cell
    (fun v => (World.cell?_setCell_other _ _ _ _ (by simp)).trans Hb.cell) (Nat.mod_lt _ (by omega)) (or_shift c x (by omega) hx)).mono ?_
  rintro e w' ⟨rfl, rfl⟩
  rw [quo_wrap _ _ (quo_lt x c d hx hcc)]
  exact ⟨rfl, One.set Hk _, ((Upd.refl _ _).setCell (Or.inr (by simp)) _).drew⟩

end Go.Proofs.YtpjlhpopoacjdaaDoor

/- divByLimb, by its contract. -/
namespace Go.Proofs.YtpjlhpopoacjdaaDoor
open Go.RowKit

/-- A slice that lies in a row of limbs of somebody's own. -/
def Typed (w : World) (a : Option Addr) : Prop := ∀ p, a = some p → ∃ cs, w.heap[p.block]? = some (.cells cs 53 (0, 0))
theorem Typed.nil (w : World) : Typed w none := fun _ h => by cases h
theorem Typed.blk {w : World} {g o : Nat} {X : List Nat} (h : Blk w g X) : Typed w (some ⟨g, o, none⟩) := fun p e => by cases e; exact ⟨_, h⟩

theorem drop_set_self (X : List Nat) (i q : Nat) (hi : i < X.length) : (X.set i q).drop i = q :: X.drop (i + 1) := by
  have h : i < (X.set i q).length := by simpa using hi
  rw [List.drop_eq_getElem_cons h, List.drop_set_of_lt (by omega)]
  simp

theorem div_step (X A : List Nat) (i c d : Nat) (hX : i < X.length) (hA : i < A.length) (he : val (X.drop (i + 1)) * d + c = val (A.drop (i + 1))) :
    val ((X.set i ((c * 4294967296 + A.getD i 0) / d)).drop i) * d + (c * 4294967296 + A.getD i 0) % d = val (A.drop i) := by
  rw [drop_set_self X i _ hX, val_cons, val_drop A i hA, ← he, Nat.add_mul, Nat.mul_assoc]
  have h := Nat.div_add_mod (c * 4294967296 + A.getD i 0) d
  rw [Nat.mul_comm] at h
  generalize (c * 4294967296 + A.getD i 0) / d * d = u1 at *
  generalize (c * 4294967296 + A.getD i 0) % d = u2 at *
  generalize val (X.drop (i + 1)) * d = u3 at *
  omega

theorem div_end (q d c a : Nat) (hc : c < d) (h : q * d + c = a) : q = a / d ∧ c = a % d := by
  subst h
  have hd : 0 < d := by omega
  rw [Nat.mul_comm q d, Nat.mul_add_div hd, Nat.mul_add_mod, Nat.div_eq_of_lt hc, Nat.mod_eq_of_lt hc]
  exact ⟨by omega, rfl⟩

set_option maxHeartbeats 1000000 in
set_option maxRecDepth 100000 in
theorem divByLimb_core2 (a : Option Addr) (ca d : Nat) (A : List Nat) (w : World) (hA : A.length ≤ 1000) (HA : At w a A) (dA : Dig A) (hd0 : 0 < d) (hd : d < 4294967296) :
    Calls Tryd.prog 74 #[.slice a A.length ca, .int .u32 (d : Nat)] w fun e w' =>
      Upd [] w w' ∧ ∃ a' c' M, e = .returned (.tuple #[.slice a' M.length c', .int .u32 ((val A % d : Nat))]) ∧ Norm M (val A / d) ∧ At w' a' M ∧ M.length ≤ A.length ∧ M.length ≤ c' ∧ c' ≤ 9223372036854775807 ∧ Typed w' a' := by
  go_enter Tryd.func74, Tryd.ntmps74
  go_wp2_with (at_make; refine make_u32 _ rfl _ _ rfl _ _ A.length rfl rfl (by omega) (by omega) (by omega) ?_; intro w0 hblk hup)
  refine (dividing_any _ d _ rfl).mono ?_
  rintro e w1 ⟨rfl, hk, hbb, hup1⟩
  have hg := hblk.lt
  go_wp2_with fail
  go_loopw [5, 16] (fun r i wr => ∃ k c : Nat, ∃ X : List Nat, k ≤ A.length ∧ i = .int .i64 k ∧ r = .int .u32 c ∧ Blk wr w.heap.size X ∧ X.length = A.length ∧ Dig X ∧ One wr (w0.heap.size + 1) .u64 52 c ∧ One wr w0.heap.size .u32 53 d ∧ c < d ∧ Upd [] w wr ∧
      val (X.drop (A.length - k)) * d + c = val (A.drop (A.length - k))) (fun _ i _ => A.length - (intOf i).toNat)
  case atStart =>
    refine ⟨0, 0, List.replicate A.length 0, Nat.zero_le _, rfl, rfl, hblk.mono hup1 (by simp), by simp, Dig.replicate _, hk, hbb, hd0, hup.trans hup1, ?_⟩
    rw [Nat.sub_zero, List.drop_of_length_le (by simp), List.drop_of_length_le (Nat.le_refl _)]; simp [val]
  case round =>
    obtain ⟨k, c, X, hk1, rfl, rfl, hX, hXl, dX, hK, hBB, hc, hU, he⟩ := hrel
    have HE : Hid _ := he
    have HL : Hid _ := hXl
    clear he hXl hblk hup hk hbb hup1
    by_cases hk2 : k < A.length
    · rcases HA.mono hU with h | ⟨ba, oa, rfl, hlta, hca⟩
      · rw [h] at hk2; simp at hk2
      have hcx := hca (A.length - 1 - k) (by omega)
      obtain ⟨x, hx⟩ : ∃ x, x = A.getD (A.length - 1 - k) 0 := ⟨_, rfl⟩
      rw [← hx] at hcx
      have HX : Hid _ := hx
      have hxl : x < 4294967296 := by rw [hx]; exact dA.getD _
      clear hx hca
      have HI : Hid (A.length - 1 - k + 1 = A.length - k) := by show _ = _; omega
      go_wp2_with fail
      refine (dividing1_any x c d _ _ wr hxl hd hc hK hBB (by omega)).mono ?_
      rintro e w4 ⟨rfl, hK4, hU4⟩
      have hq := quo_lt x c d hxl hc
      have hr := Nat.mod_lt (c * 4294967296 + x) hd0
      have HD : Hid _ := div_step X A (A.length - 1 - k) c d (by rw [HL.out]; omega) (by omega) (by rw [HI.out]; exact HE.out)
      rw [← HX.out] at HD
      generalize (c * 4294967296 + x) / d = q at *
      generalize (c * 4294967296 + x) % d = r at *
      have hX4 := hX.mono hU4 (by simp; omega)
      have hcell := hX4.cell (A.length - 1 - k) (by rw [HL.out]; omega)
      have hfree := hX4.free (A.length - 1 - k)
      have hB4 := hBB.mono hU4 (by simp)
      go_wp2
      go_roundw
      case rel =>
        refine ⟨k + 1, _, _, by omega, by go_num, rfl, hX4.set _ _, by rw [List.length_set]; exact HL.out, dX.set _ _ hq, hK4.other _ (by show w.heap.size ≠ w0.heap.size + 1; omega) _, hB4.other _ (by show w.heap.size ≠ w0.heap.size; omega) _, hr, (hU.then hU4 (by simp; omega)).setCell (Or.inl (Nat.le_refl _)) _, ?_⟩
        rw [show A.length - (k + 1) = A.length - 1 - k by omega]
        exact HD.out
      case measure => simp [intOf]; omega
    · have hkm : k = A.length := by omega
      go_wp2_with fail
      have hTl := HL.out
      rw [← hTl]
      refine (trimmed_new _ _ X wr (by omega) (Nat.le_refl _) (by omega) hX.at dX).mono ?_
      rintro e w5 ⟨rfl, a', c', M, rfl, hN, hAt, hl, hc1, hc2, hfr⟩
      go_wp2
      go_ret2
      have hv := HE.out
      rw [hkm, Nat.sub_self, List.drop_zero, List.drop_zero] at hv
      obtain ⟨e1, e2⟩ := div_end _ _ _ _ hc hv
      exact ⟨hU, a', c', M, by rw [← e2]; rfl, e1 ▸ hN, hAt, by omega, hc1, hc2, by rcases hfr with h | h <;> rw [h]; exact Typed.nil _; exact Typed.blk hX⟩

/-- divByLimb: quotient and rest. -/
theorem divByLimb_new (a : Option Addr) (D : Int) (ca d x : Nat) (A : List Nat) (w : World) (hD : D = (d : Int)) (hA : A.length ≤ 1000) (HA : At w a A) (nA : Norm A x) (hd0 : 0 < d) (hd : d < 4294967296) :
    Calls Tryd.prog 74 #[.slice a A.length ca, .int .u32 D] w fun e w' =>
      Upd [] w w' ∧ ∃ a' c' M, e = .returned (.tuple #[.slice a' M.length c', .int .u32 ((x % d : Nat))]) ∧ Norm M (x / d) ∧ At w' a' M ∧ M.length ≤ A.length ∧ M.length ≤ c' ∧ c' ≤ 9223372036854775807 ∧ Typed w' a' := by
  have h := nA.eq
  subst h hD
  exact divByLimb_core2 a ca d A w hA HA nA.dig hd0 hd

theorem divByLimb_any (a : Option Addr) (D : Int) (ca d x : Nat) (A : List Nat) (w : World) (hD : D = (d : Int)) (hA : A.length ≤ 1000) (HA : At w a A) (nA : Norm A x) (hd0 : 0 < d) (hd : d < 4294967296) :
    Calls Tryd.prog 74 #[.slice a A.length ca, .int .u32 D] w fun e w' =>
      Upd [] w w' ∧ ∃ a' c' M, e = .returned (.tuple #[.slice a' M.length c', .int .u32 ((x % d : Nat))]) ∧ Norm M (x / d) ∧ At w' a' M ∧ M.length ≤ A.length ∧ M.length ≤ c' ∧ c' ≤ 9223372036854775807 := by
  refine (divByLimb_new a D ca d x A w hD hA HA nA hd0 hd).mono ?_
  rintro e w' ⟨h0, a', c', M, h1, h2, h3, h4, h5, h6, _⟩
  exact ⟨h0, a', c', M, h1, h2, h3, h4, h5, h6⟩

end Go.Proofs.YtpjlhpopoacjdaaDoor
