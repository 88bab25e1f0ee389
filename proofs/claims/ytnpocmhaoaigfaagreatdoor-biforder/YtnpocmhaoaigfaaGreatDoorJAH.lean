/- takeDigit, by its contract. -/
import Derived.Test.YtnpocmhaoaigfaaGreatDoorJAG
import Derived.Test.YtnpocmhaoaigfaaGreatDoorSubL
import Derived.Test.YtnpocmhaoaigfaaGreatDoorCmpL
import Derived.Test.YtnpocmhaoaigfaaGreatDoorDivL
import Derived.Test.YtnpocmhaoaigfaaGreatDoorJAA
import Derived.Deep.AppendSrc

namespace Go.Proofs.YtnpocmhaoaigfaaGreatDoor
open Go.RowKit

theorem limbAt_I (a : Option Addr) (cap i : Nat) (I : Int) (L : List Nat) (w : World) (hI : I = (i : Int)) (hn : L.length ≤ 100000) (hL : At w a L) :
    Calls Tryz.prog 148 #[.slice a L.length cap, .int .i64 I] w fun e w' => e = .returned (.int .u32 (L.getD i 0 : Nat)) ∧ w' = w := by
  subst hI; exact limbAt_any a cap i L w hn hL

/-- The guess is not too small. -/
theorem guess_ge (R B : List Nat) (r y m : Nat) (nR : Norm R r) (nB : Norm B y) (hm : B.length = m + 1) (hr : r < 4294967296 * y) : r / y ≤ (R.getD (m + 1) 0 * 4294967296 + R.getD m 0) / B.getD m 0 := by
  have hy0 : 0 < y := by
    rcases Nat.eq_zero_or_pos y with h | h
    · rw [h] at hr; omega
    · exact h
  have hBne : B ≠ [] := by intro e; rw [e] at hm; simp at hm
  -- b is at least its top limb
  have hb : 4294967296 ^ m * B.getD m 0 ≤ y := by
    have h := val_split B m (by omega)
    rw [nB.eq, val_drop B m (by omega)] at h
    have e : B.drop (m + 1) = [] := List.drop_of_length_le (by omega)
    rw [e, val_nil, Nat.mul_zero, Nat.add_zero] at h
    omega
  have ht : 0 < B.getD m 0 := by
    have h := nB.top (B.getD m 0) (by
      rw [List.getLast?_eq_getElem?, hm, Nat.add_sub_cancel, List.getD_eq_getElem?_getD, List.getElem?_eq_getElem (by omega)]; rfl)
    omega
  -- the rest has no more than its two top limbs
  have hRl : R.length ≤ m + 2 := by
    rw [nR.len_le]
    have h1 := nB.lt
    rw [hm] at h1
    have h2 : 4294967296 * y < 4294967296 * 4294967296 ^ (m + 1) := Nat.mul_lt_mul_of_pos_left h1 (by decide)
    rw [Nat.pow_succ, Nat.mul_comm (4294967296 ^ (m + 1))]
    exact Nat.lt_trans hr h2
  have hR : r < 4294967296 ^ m * (R.getD (m + 1) 0 * 4294967296 + R.getD m 0 + 1) := by
    have e1 : val (R.take (m + 2)) = r := by rw [val_take_all R _ hRl, nR.eq]
    rw [val_take_succ, val_take_succ] at e1
    have h1 : val (R.take m) < 4294967296 ^ m := by
      have h := val_lt (nR.dig.take m)
      exact Nat.lt_of_lt_of_le h (Nat.pow_le_pow_right (by decide) (by simp; omega))
    have h2 := pow_split m (R.getD m 0) (R.getD (m + 1) 0)
    rw [Nat.mul_add (4294967296 ^ m) _ 1, Nat.mul_one, Nat.add_comm (R.getD (m + 1) 0 * 4294967296), Nat.mul_comm (R.getD (m + 1) 0), h2]
    generalize 4294967296 ^ m * R.getD m 0 = u1 at *
    generalize 4294967296 ^ (m + 1) * R.getD (m + 1) 0 = u2 at *
    generalize 4294967296 ^ m = u3 at *
    omega
  rw [Nat.le_div_iff_mul_le ht]
  have hq : r / y * y ≤ r := Nat.div_mul_le_self r y
  have h3 : r / y * (4294967296 ^ m * B.getD m 0) ≤ r / y * y := Nat.mul_le_mul_left _ hb
  rw [Nat.mul_left_comm] at h3
  have h4 : 4294967296 ^ m * (r / y * B.getD m 0) < 4294967296 ^ m * (R.getD (m + 1) 0 * 4294967296 + R.getD m 0 + 1) := by
    generalize 4294967296 ^ m * (r / y * B.getD m 0) = u1 at *
    generalize 4294967296 ^ m * (R.getD (m + 1) 0 * 4294967296 + R.getD m 0 + 1) = u2 at *
    omega
  have h5 := Nat.lt_of_mul_lt_mul_left h4
  omega

theorem quo_wrap64 (V t : Nat) (hV : V < 18446744073709551616) : IntKind.u64.wrap ((V : Int) / (t : Int)) = ((V / t : Nat) : Int) := by
  have e : (V : Int) / (t : Int) = ((V / t : Nat) : Int) := by simp
  have h := Nat.div_le_self V t
  rw [e]
  generalize V / t = q at *
  simp only [IntKind.wrap_u64]
  omega

theorem cmp3_le (x y : Nat) (h : ¬ y < x) : cmp3 x y ≤ 0 := by
  unfold cmp3
  by_cases h1 : x < y
  · simp [h1]
  · simp [h1, h]

theorem div_of_le (r y d : Nat) (hy : 0 < y) (h1 : r / y ≤ d) (h2 : d * y ≤ r) : d = r / y ∧ r - d * y = r % y := by
  have h3 : d ≤ r / y := (Nat.le_div_iff_mul_le hy).2 h2
  have h4 : d = r / y := by omega
  refine ⟨h4, ?_⟩
  have h5 := Nat.div_add_mod r y
  rw [← h4, Nat.mul_comm] at h5
  generalize d * y = u at *
  omega

set_option maxHeartbeats 1000000 in
set_option maxRecDepth 100000 in
/-- From the guess on. -/
theorem takeDigit_core (a b : Option Addr) (ca cb r y m hi lo t V q D : Nat) (R B : List Nat) (w : World) (hR : R.length ≤ 900) (hB : B.length ≤ 900) (HA : At w a R) (HB : At w b B) (nR : Norm R r) (nB : Norm B y) (hy : 0 < y)
    (hm : B.length = m + 1) (hhi : hi = R.getD (m + 1) 0) (hlo : lo = R.getD m 0) (ht : t = B.getD m 0) (hhil : hi < 4294967296) (hlol : lo < 4294967296) (htl : t < 4294967296) (ht0 : 0 < t)
    (hor : bits BinOp.or IntKind.u64 ((hi : Int) * 4294967296) (lo : Int) = (V : Nat)) (hqw : IntKind.u64.wrap ((V : Int) / (t : Int)) = (q : Nat)) (hD : (4294967295 < q ∧ D = 4294967295) ∨ (q ≤ 4294967295 ∧ D = q)) (hge : r / y ≤ D) :
    Calls Tryz.prog 155 #[.slice a R.length ca, .slice b (m + 1) cb] w fun e w' =>
      Upd [] w w' ∧ ∃ a' c' M, e = .returned (.tuple #[.int .u32 ((r / y : Nat)), .slice a' M.length c']) ∧ Norm M (r % y) ∧ At w' a' M ∧ M.length ≤ R.length ∧ M.length ≤ c' ∧ c' ≤ 9223372036854775807 ∧ Fresh w.heap.size a' := by
  have hm2 : m + 1 ≤ 900 := by omega
  rcases HB with h | ⟨bb, ob, rfl, hltb, hcb⟩
  · rw [h] at hm; simp at hm
  have hct := hcb m (by omega)
  rw [← ht] at hct
  have HM : Hid _ := hm
  have HHI : Hid _ := hhi
  have HLO : Hid _ := hlo
  have HB : Hid _ := (Or.inr ⟨bb, ob, rfl, hltb, hcb⟩ : At w (some ⟨bb, ob, none⟩) B)
  have HDQ : Hid (r / y ≤ D) := hge
  clear hm hhi hlo ht hge hcb
  rcases hD with ⟨hD1, rfl⟩ | ⟨hD1, rfl⟩
  · go_enter Tryz.func155, Tryz.ntmps155
    go_wp2_with fail
    refine (limbAt_I a ca (m + 1) _ R w (by omega) (by omega) HA).mono ?_
    rintro e w1 ⟨rfl, rfl⟩
    rw [← HHI.out]
    go_wp2_with fail
    refine (limbAt_I a ca m _ R w1 (by omega) (by omega) HA).mono ?_
    rintro e w2 ⟨rfl, rfl⟩
    rw [← HLO.out]
    go_wp2_with fail
    have hs := scaled_any (some ⟨bb, ob, none⟩) _ _ cb _ 0 y B w2 (show (_ : Int) = ((4294967295 : Nat) : Int) from rfl) rfl (by omega) HB.out nB (by omega) (by omega)
    rw [HM.out] at hs
    refine hs.mono ?_
    rintro e w3 ⟨hU3, a3, c3, M3, rfl, hN3, hA3, hl3, hc31, hc32⟩
    clear hs
    go_wp2_with fail
    go_loopw [4, 8] (fun dg pt wr => ∃ d c' : Nat, ∃ a' : Option Addr, ∃ M : List Nat, dg = .int .u32 d ∧ pt = .slice a' M.length c' ∧ Norm M (d * y) ∧ At wr a' M ∧ M.length ≤ 1000 ∧ r / y ≤ d ∧ d ≤ 4294967295 ∧ Upd [] w2 wr) (fun dg _ _ => (intOf dg).toNat)
    case atStart => exact ⟨4294967295, c3, a3, M3, rfl, rfl, hN3, hA3, by omega, HDQ.out, by omega, hU3⟩
    case round =>
      obtain ⟨d, c', a', M, rfl, rfl, hN, hA, hl, hd1, hd2, hU⟩ := hrel
      have HD1 : Hid _ := hd1
      clear hd1 hN3 hA3 hl3 hc31 hc32 hU3
      have hcm := compareLimbs_any a' a c' ca _ r M R wr hl (by omega) hA (HA.mono hU) hN nR
      by_cases hgt : r < d * y
      · rw [cmp3_gt hgt] at hcm
        have hd0 : 0 < d := by
          rcases Nat.eq_zero_or_pos d with h | h
          · rw [h, Nat.zero_mul] at hgt; omega
          · exact h
        go_wp2_with fail
        refine hcm.mono ?_
        rintro e w4 ⟨rfl, hU4⟩
        clear hcm
        go_wp2_with fail
        have hsb := subLimbs_any a' (some ⟨bb, ob, none⟩) c' cb _ y M B w4 hl (hA.mono hU4) ((At.mono HB.out hU).mono hU4) hN nB (Nat.le_mul_of_pos_left y hd0)
        rw [HM.out] at hsb
        refine hsb.mono ?_
        rintro e w5 ⟨hU5, a5, c5, M5, rfl, hN5, hA5, hl5, hc51, hc52, hf5⟩
        clear hsb
        go_wp2
        go_roundw
        case rel =>
          refine ⟨d - 1, c5, a5, M5, by go_num, rfl, ?_, hA5, by omega, ?_, by omega, (hU.trans hU4).trans hU5⟩
          · rw [Nat.sub_mul, Nat.one_mul]; exact hN5
          · have := (Nat.div_lt_iff_lt_mul hy).2 hgt; omega
        case measure => simp [intOf]; omega
      · have hle := cmp3_le _ _ hgt
        obtain ⟨z, hz⟩ : ∃ z, z = cmp3 (d * y) r := ⟨_, rfl⟩
        rw [← hz] at hcm hle
        clear hz
        go_wp2_with fail
        refine hcm.mono ?_
        rintro e w4 ⟨rfl, hU4⟩
        clear hcm
        go_wp2_with fail
        refine (subLimbs_any a a' ca c' r _ R M w4 (by omega) ((HA.mono hU).mono hU4) (hA.mono hU4) nR hN (by omega)).mono ?_
        rintro e w5 ⟨hU5, a5, c5, M5, rfl, hN5, hA5, hl5, hc51, hc52, hf5⟩
        go_wp2
        go_ret2
        obtain ⟨e1, e2⟩ := div_of_le r y d hy HD1.out (by omega)
        refine ⟨(hU.trans hU4).trans hU5, a5, c5, M5, by rw [← e1]; rfl, e2 ▸ hN5, hA5, hl5, hc51, hc52, hf5.le (Nat.le_trans hU.size hU4.size)⟩
  · go_enter Tryz.func155, Tryz.ntmps155
    go_wp2_with fail
    refine (limbAt_I a ca (m + 1) _ R w (by omega) (by omega) HA).mono ?_
    rintro e w1 ⟨rfl, rfl⟩
    rw [← HHI.out]
    go_wp2_with fail
    refine (limbAt_I a ca m _ R w1 (by omega) (by omega) HA).mono ?_
    rintro e w2 ⟨rfl, rfl⟩
    rw [← HLO.out]
    go_wp2_with fail
    have hs := scaled_any (some ⟨bb, ob, none⟩) _ _ cb _ 0 y B w2 (show (_ : Int) = ((D : Nat) : Int) from rfl) rfl (by omega) HB.out nB (by omega) (by omega)
    rw [HM.out] at hs
    refine hs.mono ?_
    rintro e w3 ⟨hU3, a3, c3, M3, rfl, hN3, hA3, hl3, hc31, hc32⟩
    clear hs
    go_wp2_with fail
    go_loopw [4, 8] (fun dg pt wr => ∃ d c' : Nat, ∃ a' : Option Addr, ∃ M : List Nat, dg = .int .u32 d ∧ pt = .slice a' M.length c' ∧ Norm M (d * y) ∧ At wr a' M ∧ M.length ≤ 1000 ∧ r / y ≤ d ∧ d ≤ 4294967295 ∧ Upd [] w2 wr) (fun dg _ _ => (intOf dg).toNat)
    case atStart => exact ⟨D, c3, a3, M3, rfl, rfl, hN3, hA3, by omega, HDQ.out, by omega, hU3⟩
    case round =>
      obtain ⟨d, c', a', M, rfl, rfl, hN, hA, hl, hd1, hd2, hU⟩ := hrel
      have HD1 : Hid _ := hd1
      clear hd1 hN3 hA3 hl3 hc31 hc32 hU3
      have hcm := compareLimbs_any a' a c' ca _ r M R wr hl (by omega) hA (HA.mono hU) hN nR
      by_cases hgt : r < d * y
      · rw [cmp3_gt hgt] at hcm
        have hd0 : 0 < d := by
          rcases Nat.eq_zero_or_pos d with h | h
          · rw [h, Nat.zero_mul] at hgt; omega
          · exact h
        go_wp2_with fail
        refine hcm.mono ?_
        rintro e w4 ⟨rfl, hU4⟩
        clear hcm
        go_wp2_with fail
        have hsb := subLimbs_any a' (some ⟨bb, ob, none⟩) c' cb _ y M B w4 hl (hA.mono hU4) ((At.mono HB.out hU).mono hU4) hN nB (Nat.le_mul_of_pos_left y hd0)
        rw [HM.out] at hsb
        refine hsb.mono ?_
        rintro e w5 ⟨hU5, a5, c5, M5, rfl, hN5, hA5, hl5, hc51, hc52, hf5⟩
        clear hsb
        go_wp2
        go_roundw
        case rel =>
          refine ⟨d - 1, c5, a5, M5, by go_num, rfl, ?_, hA5, by omega, ?_, by omega, (hU.trans hU4).trans hU5⟩
          · rw [Nat.sub_mul, Nat.one_mul]; exact hN5
          · have := (Nat.div_lt_iff_lt_mul hy).2 hgt; omega
        case measure => simp [intOf]; omega
      · have hle := cmp3_le _ _ hgt
        obtain ⟨z, hz⟩ : ∃ z, z = cmp3 (d * y) r := ⟨_, rfl⟩
        rw [← hz] at hcm hle
        clear hz
        go_wp2_with fail
        refine hcm.mono ?_
        rintro e w4 ⟨rfl, hU4⟩
        clear hcm
        go_wp2_with fail
        refine (subLimbs_any a a' ca c' r _ R M w4 (by omega) ((HA.mono hU).mono hU4) (hA.mono hU4) nR hN (by omega)).mono ?_
        rintro e w5 ⟨hU5, a5, c5, M5, rfl, hN5, hA5, hl5, hc51, hc52, hf5⟩
        go_wp2
        go_ret2
        obtain ⟨e1, e2⟩ := div_of_le r y d hy HD1.out (by omega)
        refine ⟨(hU.trans hU4).trans hU5, a5, c5, M5, by rw [← e1]; rfl, e2 ▸ hN5, hA5, hl5, hc51, hc52, hf5.le (Nat.le_trans hU.size hU4.size)⟩

/-- takeDigit: how often b is in rest, and what is left. -/
theorem takeDigit_any (a b : Option Addr) (ca cb r y : Nat) (R B : List Nat) (w : World) (hR : R.length ≤ 900) (hB : B.length ≤ 900) (HA : At w a R) (HB : At w b B) (nR : Norm R r) (nB : Norm B y) (hr : r < 4294967296 * y) :
    Calls Tryz.prog 155 #[.slice a R.length ca, .slice b B.length cb] w fun e w' =>
      Upd [] w w' ∧ ∃ a' c' M, e = .returned (.tuple #[.int .u32 ((r / y : Nat)), .slice a' M.length c']) ∧ Norm M (r % y) ∧ At w' a' M ∧ M.length ≤ R.length ∧ M.length ≤ c' ∧ c' ≤ 9223372036854775807 ∧ Fresh w.heap.size a' := by
  have hy : 0 < y := by
    rcases Nat.eq_zero_or_pos y with h | h
    · rw [h] at hr; omega
    · exact h
  obtain ⟨m, hm⟩ : ∃ m, B.length = m + 1 := by
    cases B with
    | nil => have := nB.eq; simp [val] at this; omega
    | cons x t => exact ⟨t.length, by simp⟩
  have hg := guess_ge R B r y m nR nB hm hr
  have ht : 0 < B.getD m 0 := by
    have h := nB.top (B.getD m 0) (by
      rw [List.getLast?_eq_getElem?, hm, Nat.add_sub_cancel, List.getD_eq_getElem?_getD, List.getElem?_eq_getElem (by omega)]; rfl)
    omega
  have hq2 : r / y ≤ 4294967295 := by
    have := (Nat.div_lt_iff_lt_mul hy).2 hr; omega
  have h1 := nR.dig.getD (m + 1)
  have h2 := nR.dig.getD m
  have h3 := nB.dig.getD m
  rw [hm]
  refine takeDigit_core a b ca cb r y m _ _ _ (R.getD (m + 1) 0 * 4294967296 + R.getD m 0) ((R.getD (m + 1) 0 * 4294967296 + R.getD m 0) / B.getD m 0) (min ((R.getD (m + 1) 0 * 4294967296 + R.getD m 0) / B.getD m 0) 4294967295) R B w hR hB HA HB nR nB hy hm rfl rfl rfl h1 h2 h3 ht (or_shift _ _ h1 h2) (quo_wrap64 _ _ ?_) ?_ ?_
  · generalize R.getD (m + 1) 0 = p at *
    generalize R.getD m 0 = q at *
    omega
  · generalize (R.getD (m + 1) 0 * 4294967296 + R.getD m 0) / B.getD m 0 = q
    rcases Nat.lt_or_ge 4294967295 q with h | h
    · exact Or.inl ⟨h, Nat.min_eq_right (by omega)⟩
    · exact Or.inr ⟨h, Nat.min_eq_left h⟩
  · exact Nat.le_min.2 ⟨hg, hq2⟩

end Go.Proofs.YtnpocmhaoaigfaaGreatDoor

/- 'append([]uint32{x}, xs...)'. -/
namespace Go.Proofs.YtnpocmhaoaigfaaGreatDoor
open Go.RowKit

theorem Blk.owns {w : World} {g : Nat} {X : List Nat} (h : Blk w g X) (hl : X.length ≤ 100000) : w.ownsRow g 61 1 (.slice (some ⟨g, 0, none⟩) X.length X.length) X.length (X.map (fun n => Value.int .u32 (n : Nat))) :=
  ⟨by simp, Or.inr ⟨g, X.length, u32s X, rfl, Nat.le_refl _, h, Nat.le_refl _, by unfold maxLen; omega, by simp [u32s], by rw [Nat.mul_one, List.take_of_length_le (by simp [u32s])]; simp [u32s]⟩⟩

theorem map_u32_get (M : List Nat) (j : Nat) (u : Value) (h : (M.map (fun n => Value.int .u32 (n : Nat)))[j]? = some u) : j < M.length ∧ u = .int .u32 (M.getD j 0 : Nat) := by
  rw [List.getElem?_map, Option.map_eq_some_iff] at h
  obtain ⟨n, h1, h2⟩ := h
  obtain ⟨hj, e⟩ := List.getElem?_eq_some_iff.1 h1
  exact ⟨hj, by rw [← h2, List.getD_eq_getElem?_getD, h1]; rfl⟩

/-- What is owned is there. -/
theorem owns_at {w : World} {base n : Nat} {v : Value} {L : List Nat} (h : w.ownsRow base 61 1 v n (L.map (fun n => Value.int .u32 (n : Nat)))) (hv : v ≠ .slice none 0 0) :
    n = L.length ∧ ∃ g cap, v = .slice (some ⟨g, 0, none⟩) n cap ∧ base ≤ g ∧ n ≤ cap ∧ cap ≤ 9223372036854775807 ∧ At w (some ⟨g, 0, none⟩) L := by
  obtain ⟨hl, ⟨h1, _⟩ | ⟨g, cap, cur, hv', hb, hh, hc1, hc2, hcs, hcu⟩⟩ := h
  · exact absurd h1 hv
  · have hn : n = L.length := by simpa using hl.symm
    refine ⟨hn, g, cap, hv', hb, hc1, by unfold maxLen at hc2; omega, ?_⟩
    refine Or.inr ⟨g, 0, rfl, lt_of_block hh, fun i hi => ?_⟩
    rw [Nat.zero_add, cell_of_row w g i _ _ _ hh]
    have e : cur.toList[i]? = (cur.toList.take (n * 1))[i]? := by rw [List.getElem?_take_of_lt (by omega)]
    rw [← Array.getElem?_toList, e, hcu, List.getElem?_map, List.getElem?_eq_getElem hi, List.getD_eq_getElem?_getD, List.getElem?_eq_getElem hi]
    rfl

theorem append_u32 (w : World) {ops : Array Oper} {rest : List Oper} {o : Oper} {a : Act} {Q : Exit → Act → World → Prop} (hgd : o.guard = none) (s x : Operand)
    (ho : o.op = .call { callee := .builtin .append, args := #[s, x], argTypes := #[23, 23] }) (g : Nat) (X M : List Nat) (a' : Option Addr) (n c' : Nat) (hX : X.length ≤ 1000) (hM : M.length ≤ 1000)
    (hn : n = X.length) (hs : a.eval s = .slice (some ⟨g, 0, none⟩) n n) (hB : Blk w g X) (hx : a.eval x = .slice a' M.length c') (HM : At w a' M)
    (h : ∀ g' cap' w', At w' (some ⟨g', 0, none⟩) (X ++ M) → Upd [g] w w' → (X ++ M).length ≤ cap' → cap' ≤ 9223372036854775807 → wpList Tryz.prog ops Q rest (a.put o.dst (.slice (some ⟨g', 0, none⟩) (X ++ M).length cap')) w') :
    wpList Tryz.prog ops Q (o :: rest) a w := by
  subst hn
  obtain ⟨i0, hi, hz0, hz1, hz2⟩ := info_parts info_u32
  have hlt := hB.lt
  refine wpList_plain hgd fun K hK => ?_
  rcases a' with _ | ad
  · have hM0 : M = [] := by
      rcases HM with h | ⟨b, o, e, _⟩
      · exact h
      · cases e
    subst hM0
    have hr := run_append_room_src (P := Tryz.prog) w 23 23 o.type 61 i0 Tryz.underlying23 hi g 0 X.length X.length (.slice none 0 c') 0 [] (Src.ofNil w Tryz.underlying23 c') (by omega) (fun j hj => by simp at hj) (fun j hj => by simp at hj)
    have e0 : w.setCells g (0 + X.length * i0.size) [] = w := rfl
    rw [e0] at hr
    unfold Oper.wp execOp
    simp only [List.length_nil] at hx
    simp only [ho, resolve, invoke, builtin, Sem.run_bind, Sem.run_pure, Result.andThen_ok, List.map_toArray, List.map_cons, List.map_nil, hs, hx, hr]
    refine hK _ _ ?_
    have hh := h g X.length w (by rw [List.append_nil]; exact hB.at) (Upd.refl _ _) (by simp) (by omega)
    rw [List.append_nil] at hh
    exact hh
  · have hnews : ∀ j u, (M.map (fun n => Value.int .u32 (n : Nat)))[j]? = some u → w.cell? (ad.add j) = some u := fun j u hj => by
      obtain ⟨h1, h2⟩ := map_u32_get M j u hj
      rcases HM with h | ⟨b, o, e, _, hc⟩
      · rw [h] at h1; simp at h1
      · cases e
        rw [h2, Addr.add_lit]; exact hc j h1
    obtain ⟨v', w', hr, hown, hgr, hnil⟩ := run_append_own (P := Tryz.prog) w g 23 o.type 61 i0 (.int .u32 0) 1 4 Tryz.underlying23 hi hz0 hz1 hz2 rfl (by decide) _ X.length _ (hB.owns (by omega)) ad M.length c' (M.map (fun n => Value.int .u32 (n : Nat))) (by simp) hnews
      (fun u hu => by obtain ⟨_, _, rfl⟩ := List.mem_map.1 hu; rfl) (by unfold maxLen; omega) (by omega) (Nat.le_of_lt hlt)
    rw [← List.map_append] at hown
    obtain ⟨hn, g', cap', rfl, hb, hc1, hc2, hat⟩ := owns_at hown (fun e => by have := (hnil.1 e).1; cases this)
    unfold Oper.wp execOp
    simp only [ho, resolve, invoke, builtin, Sem.run_bind, Sem.run_pure, Result.andThen_ok, List.map_toArray, List.map_cons, List.map_nil, hs, hx, hr]
    refine hK _ _ ?_
    rw [hn]
    exact h g' cap' w' hat ((Upd.refl _ _).grown hgr (fun k hk => Or.inr (by simp [Value.ownBlock] at hk; simp [hk]))) (by rw [← hn]; exact hc1) hc2

end Go.Proofs.YtnpocmhaoaigfaaGreatDoor
