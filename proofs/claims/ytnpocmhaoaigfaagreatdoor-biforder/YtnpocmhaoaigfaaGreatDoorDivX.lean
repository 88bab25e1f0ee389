/- divLimbs, by its contract. -/
import Derived.Test.YtnpocmhaoaigfaaGreatDoorJAH
namespace Go.Proofs.YtnpocmhaoaigfaaGreatDoor
open Go.RowKit

theorem long_step (X A : List Nat) (i r Y : Nat) (hX : i < X.length) (hA : i < A.length) (he : val (X.drop (i + 1)) * Y + r = val (A.drop (i + 1))) :
    val ((X.set i ((A.getD i 0 + 4294967296 * r) / Y)).drop i) * Y + (A.getD i 0 + 4294967296 * r) % Y = val (A.drop i) := by
  rw [drop_set_self X i _ hX, val_cons, val_drop A i hA, ← he, Nat.add_mul, Nat.mul_assoc]
  have h := Nat.div_add_mod (A.getD i 0 + 4294967296 * r) Y
  rw [Nat.mul_comm] at h
  generalize (A.getD i 0 + 4294967296 * r) / Y * Y = u1 at *
  generalize (A.getD i 0 + 4294967296 * r) % Y = u2 at *
  generalize val (X.drop (i + 1)) * Y = u3 at *
  omega

theorem long_end (f x y q r : Nat) (hf : 0 < f) (hr : r < f * y) (h : q * (f * y) + r = f * x) : q = x / y ∧ r / f = x % y := by
  obtain ⟨h1, h2⟩ := div_end q (f * y) r (f * x) hr h
  rw [Nat.mul_div_mul_left _ _ hf] at h1
  rw [Nat.mul_mod_mul_left] at h2
  refine ⟨h1, ?_⟩
  rw [h2, Nat.mul_div_cancel_left _ hf]

theorem len_le_of_lt {M B : List Nat} {r Y : Nat} (nM : Norm M r) (nB : Norm B Y) (h : r < Y) : M.length ≤ B.length := by
  rcases Nat.lt_or_ge B.length M.length with h1 | h1
  · have := norm_lt_of_len nB nM h1; omega
  · exact h1

theorem below_next (a r Y : Nat) (ha : a < 4294967296) (hr : r < Y) : a + 4294967296 * r < 4294967296 * Y := by omega

theorem factor_bd (t : Nat) (ht : 0 < t) (htl : t < 4294967296) : 1 ≤ 4294967296 / (t + 1) ∧ 4294967296 / (t + 1) ≤ 2147483648 := by
  constructor
  · rw [Nat.le_div_iff_mul_le (by omega)]; omega
  · exact Nat.le_trans (Nat.div_le_div_left (show 2 ≤ t + 1 by omega) (by decide)) (by decide)

set_option maxHeartbeats 2000000 in
set_option maxRecDepth 100000 in
theorem divLimbs_core (a b : Option Addr) (ca cb x y m t f : Nat) (A B : List Nat) (w : World) (hA : A.length ≤ 100) (hB : B.length ≤ 100) (HA : At w a A) (HB : At w b B) (nA : Norm A x) (nB : Norm B y) (hy : 0 < y)
    (hm : B.length = m + 1) (ht : t = B.getD m 0) (ht0 : 0 < t) (htl : t < 4294967296) (hf1 : 1 ≤ f) (hf2 : f ≤ 2147483648) (hfw : (4294967296 : Int) / ((t : Int) + 1) = (f : Nat)) :
    Calls Tryz.prog 131 #[.slice a A.length ca, .slice b (m + 1) cb] w fun e w' =>
      Upd [] w w' ∧ ∃ a' c' M a'' c'' M', e = .returned (.tuple #[.slice a' M.length c', .slice a'' M'.length c'']) ∧ Norm M (x / y) ∧ At w' a' M ∧ Norm M' (x % y) ∧ At w' a'' M' ∧ M.length ≤ 200 ∧ M'.length ≤ 200 ∧ M.length ≤ c' ∧ c' ≤ 9223372036854775807 ∧ M'.length ≤ c'' ∧ c'' ≤ 9223372036854775807 := by
  have hm2 : m + 1 ≤ 100 := by omega
  rcases HB with h | ⟨bb, ob, rfl, hltb, hcb⟩
  · rw [h] at hm; simp at hm
  have hct := hcb m (by omega)
  rw [← ht] at hct
  have HM : Hid _ := hm
  have HB : Hid _ := (Or.inr ⟨bb, ob, rfl, hltb, hcb⟩ : At w (some ⟨bb, ob, none⟩) B)
  clear hm ht hcb
  go_enter Tryz.func131, Tryz.ntmps131
  go_wp2_with fail
  refine (scaled_any a _ _ ca f 0 x A w rfl rfl (by omega) HA nA (by omega) (by omega)).mono ?_
  rintro e w1 ⟨hU1, a1, c1, A1, rfl, nA1, hA1, hl1, hc11, hc12⟩
  go_wp2_with fail
  have hs := scaled_any (some ⟨bb, ob, none⟩) _ _ cb f 0 y B w1 (show ((f : Nat) : Int) = ((f : Nat) : Int) from rfl) rfl (by omega) (At.mono HB.out hU1) nB (by omega) (by omega)
  rw [HM.out] at hs
  refine hs.mono ?_
  rintro e w2 ⟨hU2, b1, cb1, B1, rfl, nB1, hB1, hlb1, hcb11, hcb12⟩
  clear hs
  rw [Nat.add_zero] at nA1 nB1
  have hA2 := hA1.mono hU2
  have hU12 := hU1.trans hU2
  have hY : 0 < f * y := Nat.mul_pos (by omega) hy
  clear hfw hct hA1 hU1 hU2
  go_wp2_with (at_make; refine make_u32 _ rfl _ _ rfl _ _ A1.length rfl rfl (by omega) (by omega) (by omega) ?_; intro w3 hblk hup3)
  have hg := hblk.lt
  go_loopw [5, 30] (fun rs i wr => ∃ k r c' : Nat, ∃ a' : Option Addr, ∃ X M : List Nat, k ≤ A1.length ∧ i = .int .i64 k ∧ rs = .slice a' M.length c' ∧ Norm M r ∧ At wr a' M ∧ r < f * y ∧ Blk wr w2.heap.size X ∧ X.length = A1.length ∧ Dig X ∧ Upd [] w2 wr ∧
      val (X.drop (A1.length - k)) * (f * y) + r = val (A1.drop (A1.length - k))) (fun _ i _ => A1.length - (intOf i).toNat)
  case atStart =>
    refine ⟨0, 0, 0, none, List.replicate A1.length 0, [], Nat.zero_le _, rfl, rfl, Norm.zero, At.nil _ _, hY, hblk, by simp, Dig.replicate _, hup3, ?_⟩
    rw [Nat.sub_zero, List.drop_of_length_le (by simp), List.drop_of_length_le (Nat.le_refl _)]; simp [val]
  case round =>
    obtain ⟨k, r, c', a', X, M, hk1, rfl, rfl, nM, hM, hr, hX, hXl, dX, hU, he⟩ := hrel
    have HE : Hid _ := he
    have HL : Hid _ := hXl
    have hMl : M.length ≤ 150 := Nat.le_trans (len_le_of_lt nM nB1 hr) (by omega)
    clear he hXl hblk hup3
    by_cases hk2 : k < A1.length
    · rcases hA2.mono hU with h | ⟨ba, oa, rfl, hlta, hca⟩
      · rw [h] at hk2; simp at hk2
      have hcx := hca (A1.length - 1 - k) (by omega)
      obtain ⟨z, hz⟩ : ∃ z, z = A1.getD (A1.length - 1 - k) 0 := ⟨_, rfl⟩
      rw [← hz] at hcx
      have HX : Hid _ := hz
      have hzl : z < 4294967296 := by rw [hz]; exact nA1.dig.getD _
      clear hz hca
      have HI : Hid (A1.length - 1 - k + 1 = A1.length - k) := by show _ = _; omega
      go_wp2_with (at_builtin; refine append_u32 _ rfl _ _ rfl wr.heap.size [z] M a' 1 c' (by simp) (by omega) rfl rfl ?_ rfl ?_ ?_; (exact heap_alloc_new _ _); (exact hM.mono ((Upd.refl _ _).alloc _)); intro g4 cap4 w4 hat4 hU4 hc41 hc42)
      have hdz : Dig ([z] ++ M) := by
        show Dig (z :: M)
        exact nM.dig.cons hzl
      have hv4 : val ([z] ++ M) = z + 4294967296 * r := by show val (z :: M) = _; rw [val_cons, nM.eq]
      have hU4' : Upd [] wr w4 := Upd.then ((Upd.refl [] wr).alloc _) hU4 (by simp)
      refine (trimmed_any _ _ ([z] ++ M) w4 (by simp; omega) hc41 hc42 hat4 hdz).mono ?_
      rintro e w5 ⟨rfl, a5, c5, M5, rfl, nM5, hA5, hl5, hc51, hc52⟩
      rw [hv4] at nM5
      have hl5' : M5.length ≤ 301 := by simp at hl5; omega
      clear hv4 hdz hat4 hc41 hc42 hl5
      go_wp2_with fail
      refine (takeDigit_any a5 b1 c5 cb1 _ (f * y) M5 B1 w5 (by omega) (by omega) hA5 ((hB1.mono hU).mono hU4') nM5 nB1 (below_next z r (f * y) hzl hr)).mono ?_
      rintro e w6 ⟨hU6, a6, c6, M6, rfl, nM6, hA6, hl6, hc61, hc62, hf6⟩
      have hU56 : Upd [] w2 w6 := (hU.trans hU4').trans hU6
      have hX6 := (hX.mono hU4' (by simp)).mono hU6 (by simp)
      have hql : (z + 4294967296 * r) / (f * y) < 4294967296 := (Nat.div_lt_iff_lt_mul hY).2 (below_next z r (f * y) hzl hr)
      have hrl := Nat.mod_lt (z + 4294967296 * r) hY
      have HD : Hid _ := long_step X A1 (A1.length - 1 - k) r (f * y) (by rw [HL.out]; omega) (by omega) (by rw [HI.out]; exact HE.out)
      rw [← HX.out] at HD
      generalize (z + 4294967296 * r) / (f * y) = q at *
      generalize (z + 4294967296 * r) % (f * y) = r2 at *
      have hcell := hX6.cell (A1.length - 1 - k) (by rw [HL.out]; omega)
      have hfree := hX6.free (A1.length - 1 - k)
      go_wp2
      go_roundw
      case rel =>
        refine ⟨k + 1, r2, c6, a6, _, M6, by omega, by go_num, rfl, nM6, ?_, hrl, hX6.set _ _, by rw [List.length_set]; exact HL.out, dX.set _ _ hql, hU56.setCell (Or.inl (Nat.le_refl _)) _, ?_⟩
        · refine hA6.set (fun p hp => ?_) _
          have h1 := hf6 p hp
          have h2 := hX.lt
          have h3 := hU4'.size
          show p.block ≠ w2.heap.size
          omega
        · rw [show A1.length - (k + 1) = A1.length - 1 - k by omega]
          exact HD.out
      case measure => simp [intOf]; omega
    · have hkm : k = A1.length := by omega
      go_wp2_with fail
      refine (divByLimb_any a' _ c' f r M wr rfl (by omega) hM nM (by omega) (by omega)).mono ?_
      rintro e w4 ⟨hU4, a4, c4, M4, rfl, nM4, hA4, hl4, hc41, hc42⟩
      go_wp2_with fail
      have hTl := HL.out
      have htr := trimmed_any _ X.length X w4 (by omega) (Nat.le_refl _) (by omega) (hX.mono hU4 (by simp)).at dX
      rw [hTl] at htr
      refine htr.mono ?_
      rintro e w5 ⟨rfl, a5, c5, M5, rfl, nM5, hA5, hl5, hc51, hc52⟩
      clear htr
      go_wp2
      go_ret2
      have hv := HE.out
      rw [hkm, Nat.sub_self, List.drop_zero, List.drop_zero, nA1.eq] at hv
      obtain ⟨e1, e2⟩ := long_end f x y (val X) r (by omega) hr hv
      exact ⟨(hU12.trans hU).trans hU4, a5, c5, M5, a4, c4, M4, rfl, e1 ▸ nM5, hA5, e2 ▸ nM4, hA4, by omega, by omega, hc51, hc52, hc41, hc42⟩

/-- divLimbs: quotient and rest. -/
theorem divLimbs_any (a b : Option Addr) (ca cb x y : Nat) (A B : List Nat) (w : World) (hA : A.length ≤ 100) (hB : B.length ≤ 100) (HA : At w a A) (HB : At w b B) (nA : Norm A x) (nB : Norm B y) (hy : 0 < y) :
    Calls Tryz.prog 131 #[.slice a A.length ca, .slice b B.length cb] w fun e w' =>
      Upd [] w w' ∧ ∃ a' c' M a'' c'' M', e = .returned (.tuple #[.slice a' M.length c', .slice a'' M'.length c'']) ∧ Norm M (x / y) ∧ At w' a' M ∧ Norm M' (x % y) ∧ At w' a'' M' ∧ M.length ≤ 200 ∧ M'.length ≤ 200 ∧ M.length ≤ c' ∧ c' ≤ 9223372036854775807 ∧ M'.length ≤ c'' ∧ c'' ≤ 9223372036854775807 := by
  obtain ⟨m, hm⟩ : ∃ m, B.length = m + 1 := by
    cases B with
    | nil => have := nB.eq; simp [val] at this; omega
    | cons x t => exact ⟨t.length, by simp⟩
  have ht : 0 < B.getD m 0 := by
    have h := nB.top (B.getD m 0) (by
      rw [List.getLast?_eq_getElem?, hm, Nat.add_sub_cancel, List.getD_eq_getElem?_getD, List.getElem?_eq_getElem (by omega)]; rfl)
    omega
  have htl := nB.dig.getD m
  obtain ⟨h1, h2⟩ := factor_bd _ ht htl
  rw [hm]
  exact divLimbs_core a b ca cb x y m _ (4294967296 / (B.getD m 0 + 1)) A B w hA hB HA HB nA nB hy hm rfl ht htl h1 h2 (by simp)

end Go.Proofs.YtnpocmhaoaigfaaGreatDoor
