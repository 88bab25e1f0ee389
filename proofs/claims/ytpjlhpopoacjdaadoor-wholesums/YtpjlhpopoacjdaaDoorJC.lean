/- timesLimbs, by its contract. -/
import Derived.Test.YtpjlhpopoacjdaaDoorJA
import Derived.Deep.RegionWith
import Derived.Test.YtpjlhpopoacjdaaDoorScal
import Derived.Test.YtpjlhpopoacjdaaDoorSubL
import Derived.Test.YtpjlhpopoacjdaaDoorCmpL
import Derived.Test.YtpjlhpopoacjdaaDoorTrim
import Derived.Deep.AppendSrc

namespace Go.Proofs.YtpjlhpopoacjdaaDoor
open Go.RowKit

/-- One step within: the limb at p takes low in place of what was there. -/
theorem times_step (X : List Nat) (p c low c' t : Nat) (hp : p < X.length) (h : low + 4294967296 * c' = c + (t + X.getD p 0)) :
    val (X.set p low) + 4294967296 ^ (p + 1) * c' = val X + 4294967296 ^ p * c + 4294967296 ^ p * t := by
  have h1 := val_set X p low hp
  have h2 := pow_split p low c'
  rw [h, Nat.mul_add, Nat.mul_add] at h2
  generalize 4294967296 ^ (p + 1) * c' = u1 at *
  generalize 4294967296 ^ p * low = u2 at *
  generalize 4294967296 ^ p * c = u3 at *
  generalize 4294967296 ^ p * t = u4 at *
  generalize 4294967296 ^ p * X.getD p 0 = u5 at *
  omega

theorem times_inner (X : List Nat) (B : List Nat) (i j c low c' v d : Nat) (hp : i + j < X.length) (he : val X + 4294967296 ^ (i + j) * c = v + 4294967296 ^ i * (d * val (B.take j)))
    (h : low + 4294967296 * c' = c + (d * B.getD j 0 + X.getD (i + j) 0)) :
    val (X.set (i + j) low) + 4294967296 ^ (i + j + 1) * c' = v + 4294967296 ^ i * (d * val (B.take (j + 1))) := by
  rw [times_step X (i + j) c low c' (d * B.getD j 0) hp h, he, val_take_succ, Nat.mul_add, Nat.mul_add, Nat.pow_add]
  rw [show 4294967296 ^ i * 4294967296 ^ j * (d * B.getD j 0) = 4294967296 ^ i * (d * (4294967296 ^ j * B.getD j 0)) by
    rw [Nat.mul_assoc, Nat.mul_left_comm (4294967296 ^ j) d]]
  omega

theorem times_lt (A B : List Nat) (i : Nat) (hi : i < A.length) (dA : Dig A) (dB : Dig B) : val (A.take (i + 1)) * val B < 4294967296 ^ (i + B.length + 1) := by
  have h1 := val_lt (dA.take (i + 1))
  have h2 := val_lt dB
  have e : (A.take (i + 1)).length = i + 1 := by simp; omega
  rw [e] at h1
  rw [show i + B.length + 1 = (i + 1) + B.length by omega, Nat.pow_add]
  exact Nat.mul_lt_mul'' h1 h2

theorem times_round (X A B : List Nat) (i c : Nat) (hi : i < A.length) (dA : Dig A) (dB : Dig B)
    (he : val X + 4294967296 ^ (i + (B.length + 1)) * c = val (A.take i) * val B + 4294967296 ^ i * (A.getD i 0 * val (B.take (B.length + 1)))) : val X = val (A.take (i + 1)) * val B := by
  rw [val_take_all B _ (by omega)] at he
  have h : val (A.take i) * val B + 4294967296 ^ i * (A.getD i 0 * val B) = val (A.take (i + 1)) * val B := by
    rw [val_take_succ, Nat.add_mul, Nat.mul_assoc]
  rw [h] at he
  have h6 := no_carry 0 0 _ c _ _ (times_lt A B i hi dA dB) he
  rw [h6, Nat.mul_zero, Nat.add_zero] at he
  exact he

set_option maxHeartbeats 2000000 in
set_option maxRecDepth 100000 in
theorem timesLimbs_core (a b : Option Addr) (ca cb : Nat) (A B : List Nat) (w : World) (hA : A.length ≤ 1000) (hB : B.length ≤ 1000) (HA : At w a A) (HB : At w b B) (dA : Dig A) (dB : Dig B) :
    Calls Tryd.prog 52 #[.slice a A.length ca, .slice b B.length cb] w fun e w' =>
      Upd [] w w' ∧ ∃ a' c' M, e = .returned (.slice a' M.length c') ∧ Norm M (val A * val B) ∧ At w' a' M ∧ M.length ≤ A.length + B.length ∧ M.length ≤ c' ∧ c' ≤ 9223372036854775807 := by
  go_enter Tryd.func52, Tryd.ntmps52
  go_wp2_with (at_make; refine make_u32 _ rfl _ _ rfl _ _ (A.length + B.length) rfl rfl (by omega) (by omega) (by omega) ?_; intro w0 hblk hup)
  have hg := hblk.lt
  go_loopw [17] (fun i wr => ∃ k : Nat, ∃ X : List Nat, k ≤ A.length ∧ i = .int .i64 k ∧ Blk wr w.heap.size X ∧ X.length = A.length + B.length ∧ Dig X ∧ Upd [] w wr ∧ w.heap.size < wr.heap.size ∧ val X = val (A.take k) * val B) (fun i _ => A.length - (intOf i).toNat)
  case atStart =>
    refine ⟨0, List.replicate (A.length + B.length) 0, Nat.zero_le _, rfl, hblk, by simp, Dig.replicate _, hup, hg, ?_⟩
    rw [val_replicate]; simp [val]
  case round =>
    rename World => wo
    obtain ⟨k, X, hk1, rfl, hX, hXl, dX, hU, hsz, he⟩ := hrel
    have HE : Hid _ := he
    have HL : Hid _ := hXl
    clear he hXl hblk hup
    by_cases hk2 : k < A.length
    · rcases HA.mono hU with h | ⟨ba, oa, rfl, hlta, hca⟩
      · rw [h] at hk2; simp at hk2
      have hcx := hca k hk2
      obtain ⟨x, hx⟩ : ∃ x, x = A.getD k 0 := ⟨_, rfl⟩
      rw [← hx] at hcx
      have HX : Hid _ := hx
      have hxl : x < 4294967296 := by rw [hx]; exact dA.getD k
      clear hx hca
      go_wp2_with fail
      refine (carrying_any _ _ x 0 _ rfl rfl (by omega)).mono ?_
      rintro e w1 ⟨rfl, hk, hbb, hup1⟩
      go_wp2_with fail
      go_loopw [28] (fun i ws => ∃ j c : Nat, ∃ Y : List Nat, j ≤ B.length + 1 ∧ i = .int .i64 j ∧ Blk ws w.heap.size Y ∧ Y.length = A.length + B.length ∧ Dig Y ∧ One ws (wo.heap.size + 1) .u64 52 c ∧ One ws wo.heap.size .u32 53 x ∧ c < 4294967296 ∧ Upd [] w ws ∧ w.heap.size < ws.heap.size ∧
          val Y + 4294967296 ^ (k + j) * c = val (A.take k) * val B + 4294967296 ^ k * (x * val (B.take j))) (fun i _ => B.length + 1 - (intOf i).toNat)
      case atStart =>
        refine ⟨0, 0, X, Nat.zero_le _, rfl, hX.mono hup1 (by simp), HL.out, dX, hk, hbb, by omega, hU.trans hup1, Nat.lt_of_lt_of_le hsz hup1.size, ?_⟩
        rw [HE.out]; simp [val]
      case round =>
        obtain ⟨j, c, Y, hj1, rfl, hY, hYl, dY, hK, hBB, hc, hV, hsz2, hf⟩ := hrel
        have HF : Hid _ := hf
        have HM : Hid _ := hYl
        clear hf hYl hk hbb hup1 hX
        by_cases hj2 : j < B.length + 1
        · have hcy := hY.cell (k + j) (by rw [HM.out]; omega)
          obtain ⟨z, hz⟩ : ∃ z, z = Y.getD (k + j) 0 := ⟨_, rfl⟩
          rw [← hz] at hcy
          have HZ : Hid _ := hz
          have hzl : z < 4294967296 := by rw [hz]; exact dY.getD _
          obtain ⟨y, hy⟩ : ∃ y, y = B.getD j 0 := ⟨_, rfl⟩
          have HY : Hid _ := hy
          have hyl : y < 4294967296 := by rw [hy]; exact dB.getD j
          have hlim : ∀ W, At W b B → Calls Tryd.prog 43 #[.slice b B.length cb, .int .i64 j] W fun e w' => e = .returned (.int .u32 (y : Nat)) ∧ w' = W := fun W hW => by
            rw [hy]; exact limbAt_any b cb j B W (by omega) hW
          have HLIM : Hid _ := hlim
          clear hy hz hlim
          obtain ⟨p, hp⟩ : ∃ p, p = k + j := ⟨_, rfl⟩
          rw [← hp] at hcy
          have hin : p < A.length + B.length := by omega
          have hwr : IntKind.i64.wrap ((k : Int) + (j : Int)) = (p : Int) := by
            rw [hp]; simp only [IntKind.wrap_i64]; omega
          have HP : Hid _ := hp
          clear hp
          go_wp2_with fail
          go_region_with (first
            | (go_at_call 43; refine (HLIM.out _ ?_).mono ?_; (first | exact HB.mono hV | exact HB.mono hV.drew); rintro e w3 ⟨rfl, rfl⟩)
            | (go_at_call 83; refine (carrying1_any y z c x _ _ _ hyl hzl hxl hc ?_ ?_).mono ?_; (exact hK); (exact hBB); rintro e w4 ⟨low, c', rfl, hlow, hc', hstep, hK4, hU4⟩; have HS : Hid _ := hstep; clear hstep; have hX4 := Blk.mono (w := wr.drew) hY hU4 (by simp; omega); have hcell := hX4.cell p (by rw [HM.out]; exact hin); have hfree := hX4.free p; have hB4 := One.mono (w := wr.drew) hBB hU4 (by simp)))
          all_goals
            go_wp2
            go_roundw
            case rel =>
              refine ⟨j + 1, _, _, by omega, by go_num, Blk.set hX4 p _, by rw [List.length_set]; exact HM.out, dY.set _ _ hlow, One.other hK4 _ (by show w.heap.size ≠ wo.heap.size + 1; omega) _, One.other hB4 _ (by show w.heap.size ≠ wo.heap.size; omega) _, hc', (Upd.then hV.drew hU4 (by simp; omega)).setCell (Or.inl (Nat.le_refl _)) _, ?_, ?_⟩
              · rw [World.size_setCell]; exact Nat.lt_of_lt_of_le hsz2 hU4.size
              · rw [HP.out]; exact times_inner Y B k j c _ _ _ x (by rw [HM.out]; omega) HF.out (by rw [← HZ.out, ← HY.out]; exact HS.out)
            case measure => simp [intOf]; omega
        · have hjm : j = B.length + 1 := by omega
          go_wp2
          go_roundw
          case rel =>
            refine ⟨k + 1, Y, by omega, by go_num, hY, HM.out, dY, hV, hsz2, ?_⟩
            refine times_round Y A B k c hk2 dA dB ?_
            rw [← HX.out, ← hjm]; exact HF.out
          case measure => simp [intOf]; omega
    · have hkm : k = A.length := by omega
      go_wp2_with fail
      have hTl := HL.out
      rw [← hTl]
      refine (trimmed_any _ _ X wo (by omega) (Nat.le_refl _) (by omega) hX.at dX).mono ?_
      rintro e w5 ⟨rfl, a', c', M, rfl, hN, hAt, hl, hc1, hc2⟩
      go_wp2
      go_ret
      subst hkm
      have hv := HE.out
      rw [val_take_all A _ (Nat.le_refl _)] at hv
      exact ⟨hU, a', c', M, rfl, hv ▸ hN, hAt, by omega, hc1, hc2⟩

/-- timesLimbs: the product. -/
theorem timesLimbs_any (a b : Option Addr) (ca cb x y : Nat) (A B : List Nat) (w : World) (hA : A.length ≤ 1000) (hB : B.length ≤ 1000) (HA : At w a A) (HB : At w b B) (nA : Norm A x) (nB : Norm B y) :
    Calls Tryd.prog 52 #[.slice a A.length ca, .slice b B.length cb] w fun e w' =>
      Upd [] w w' ∧ ∃ a' c' M, e = .returned (.slice a' M.length c') ∧ Norm M (x * y) ∧ At w' a' M ∧ M.length ≤ A.length + B.length ∧ M.length ≤ c' ∧ c' ≤ 9223372036854775807 := by
  have h := nA.eq
  have h' := nB.eq
  subst h h'
  exact timesLimbs_core a b ca cb A B w hA hB HA HB nA.dig nB.dig

end Go.Proofs.YtpjlhpopoacjdaaDoor

/- takeDigit, by its contract. -/
namespace Go.Proofs.YtpjlhpopoacjdaaDoor
open Go.RowKit

theorem limbAt_I (a : Option Addr) (cap i : Nat) (I : Int) (L : List Nat) (w : World) (hI : I = (i : Int)) (hn : L.length ≤ 100000) (hL : At w a L) :
    Calls Tryd.prog 43 #[.slice a L.length cap, .int .i64 I] w fun e w' => e = .returned (.int .u32 (L.getD i 0 : Nat)) ∧ w' = w := by
  subst hI; exact limbAt_any a cap i L w hn hL

/-- The guess is not too small. -/
theorem guess_ge (R B : List Nat) (r y m : Nat) (nR : Norm R r) (nB : Norm B y) (hm : B.length = m + 1) (hr : r < 4294967296 * y) : r / y ≤ (R.getD (m + 1) 0 * 4294967296 + R.getD m 0) / B.getD m 0 := by
  have hy0 : 0 < y := by
    rcases Nat.eq_zero_or_pos y with h | h
    · rw [h] at hr; omega
    · exact h
  have hBne : B ≠ [] := by intro e; rw [e] at hm; simp at hm
  -- b is at least its top limb
  have hb : 4294967296 ^ m * B.getD m 0 ≤ y := by
    have h := val_split B m (by omega)
    rw [nB.eq, val_drop B m (by omega)] at h
    have e : B.drop (m + 1) = [] := List.drop_of_length_le (by omega)
    rw [e, val_nil, Nat.mul_zero, Nat.add_zero] at h
    omega
  have ht : 0 < B.getD m 0 := by
    have h := nB.top (B.getD m 0) (by
      rw [List.getLast?_eq_getElem?, hm, Nat.add_sub_cancel, List.getD_eq_getElem?_getD, List.getElem?_eq_getElem (by omega)]; rfl)
    omega
  -- the rest has no more than its two top limbs
  have hRl : R.length ≤ m + 2 := by
    rw [nR.len_le]
    have h1 := nB.lt
    rw [hm] at h1
    have h2 : 4294967296 * y < 4294967296 * 4294967296 ^ (m + 1) := Nat.mul_lt_mul_of_pos_left h1 (by decide)
    rw [Nat.pow_succ, Nat.mul_comm (4294967296 ^ (m + 1))]
    exact Nat.lt_trans hr h2
  have hR : r < 4294967296 ^ m * (R.getD (m + 1) 0 * 4294967296 + R.getD m 0 + 1) := by
    have e1 : val (R.take (m + 2)) = r := by rw [val_take_all R _ hRl, nR.eq]
    rw [val_take_succ, val_take_succ] at e1
    have h1 : val (R.take m) < 4294967296 ^ m := by
      have h := val_lt (nR.dig.take m)
      exact Nat.lt_of_lt_of_le h (Nat.pow_le_pow_right (by decide) (by simp; omega))
    have h2 := pow_split m (R.getD m 0) (R.getD (m + 1) 0)
    rw [Nat.mul_add (4294967296 ^ m) _ 1, Nat.mul_one, Nat.add_comm (R.getD (m + 1) 0 * 4294967296), Nat.mul_comm (R.getD (m + 1) 0), h2]
    generalize 4294967296 ^ m * R.getD m 0 = u1 at *
    generalize 4294967296 ^ (m + 1) * R.getD (m + 1) 0 = u2 at *
    generalize 4294967296 ^ m = u3 at *
    omega
  rw [Nat.le_div_iff_mul_le ht]
  have hq : r / y * y ≤ r := Nat.div_mul_le_self r y
  have h3 : r / y * (4294967296 ^ m * B.getD m 0) ≤ r / y * y := Nat.mul_le_mul_left _ hb
  rw [Nat.mul_left_comm] at h3
  have h4 : 4294967296 ^ m * (r / y * B.getD m 0) < 4294967296 ^ m * (R.getD (m + 1) 0 * 4294967296 + R.getD m 0 + 1) := by
    generalize 4294967296 ^ m * (r / y * B.getD m 0) = u1 at *
    generalize 4294967296 ^ m * (R.getD (m + 1) 0 * 4294967296 + R.getD m 0 + 1) = u2 at *
    omega
  have h5 := Nat.lt_of_mul_lt_mul_left h4
  omega

theorem quo_wrap64 (V t : Nat) (hV : V < 18446744073709551616) : IntKind.u64.wrap ((V : Int) / (t : Int)) = ((V / t : Nat) : Int) := by
  have e : (V : Int) / (t : Int) = ((V / t : Nat) : Int) := by simp
  have h := Nat.div_le_self V t
  rw [e]
  generalize V / t = q at *
  simp only [IntKind.wrap_u64]
  omega

theorem cmp3_le (x y : Nat) (h : ¬ y < x) : cmp3 x y ≤ 0 := by
  unfold cmp3
  by_cases h1 : x < y
  · simp [h1]
  · simp [h1, h]

theorem div_of_le (r y d : Nat) (hy : 0 < y) (h1 : r / y ≤ d) (h2 : d * y ≤ r) : d = r / y ∧ r - d * y = r % y := by
  have h3 : d ≤ r / y := (Nat.le_div_iff_mul_le hy).2 h2
  have h4 : d = r / y := by omega
  refine ⟨h4, ?_⟩
  have h5 := Nat.div_add_mod r y
  rw [← h4, Nat.mul_comm] at h5
  generalize d * y = u at *
  omega

set_option maxHeartbeats 1000000 in
set_option maxRecDepth 100000 in
/-- From the guess on. -/
theorem takeDigit_core (a b : Option Addr) (ca cb r y m hi lo t V q D : Nat) (R B : List Nat) (w : World) (hR : R.length ≤ 900) (hB : B.length ≤ 900) (HA : At w a R) (HB : At w b B) (nR : Norm R r) (nB : Norm B y) (hy : 0 < y)
    (hm : B.length = m + 1) (hhi : hi = R.getD (m + 1) 0) (hlo : lo = R.getD m 0) (ht : t = B.getD m 0) (hhil : hi < 4294967296) (hlol : lo < 4294967296) (htl : t < 4294967296) (ht0 : 0 < t)
    (hor : bits BinOp.or IntKind.u64 ((hi : Int) * 4294967296) (lo : Int) = (V : Nat)) (hqw : IntKind.u64.wrap ((V : Int) / (t : Int)) = (q : Nat)) (hD : (4294967295 < q ∧ D = 4294967295) ∨ (q ≤ 4294967295 ∧ D = q)) (hge : r / y ≤ D) :
    Calls Tryd.prog 73 #[.slice a R.length ca, .slice b (m + 1) cb] w fun e w' =>
      Upd [] w w' ∧ ∃ a' c' M, e = .returned (.tuple #[.int .u32 ((r / y : Nat)), .slice a' M.length c']) ∧ Norm M (r % y) ∧ At w' a' M ∧ M.length ≤ R.length ∧ M.length ≤ c' ∧ c' ≤ 9223372036854775807 ∧ Fresh w.heap.size a' := by
  have hm2 : m + 1 ≤ 900 := by omega
  rcases HB with h | ⟨bb, ob, rfl, hltb, hcb⟩
  · rw [h] at hm; simp at hm
  have hct := hcb m (by omega)
  rw [← ht] at hct
  have HM : Hid _ := hm
  have HHI : Hid _ := hhi
  have HLO : Hid _ := hlo
  have HB : Hid _ := (Or.inr ⟨bb, ob, rfl, hltb, hcb⟩ : At w (some ⟨bb, ob, none⟩) B)
  have HDQ : Hid (r / y ≤ D) := hge
  clear hm hhi hlo ht hge hcb
  rcases hD with ⟨hD1, rfl⟩ | ⟨hD1, rfl⟩
  · go_enter Tryd.func73, Tryd.ntmps73
    go_wp2_with fail
    refine (limbAt_I a ca (m + 1) _ R w (by omega) (by omega) HA).mono ?_
    rintro e w1 ⟨rfl, rfl⟩
    rw [← HHI.out]
    go_wp2_with fail
    refine (limbAt_I a ca m _ R w1 (by omega) (by omega) HA).mono ?_
    rintro e w2 ⟨rfl, rfl⟩
    rw [← HLO.out]
    go_wp2_with fail
    have hs := scaled_any (some ⟨bb, ob, none⟩) _ _ cb _ 0 y B w2 (show (_ : Int) = ((4294967295 : Nat) : Int) from rfl) rfl (by omega) HB.out nB (by omega) (by omega)
    rw [HM.out] at hs
    refine hs.mono ?_
    rintro e w3 ⟨hU3, a3, c3, M3, rfl, hN3, hA3, hl3, hc31, hc32⟩
    clear hs
    go_wp2_with fail
    go_loopw [4, 8] (fun dg pt wr => ∃ d c' : Nat, ∃ a' : Option Addr, ∃ M : List Nat, dg = .int .u32 d ∧ pt = .slice a' M.length c' ∧ Norm M (d * y) ∧ At wr a' M ∧ M.length ≤ 1000 ∧ r / y ≤ d ∧ d ≤ 4294967295 ∧ Upd [] w2 wr) (fun dg _ _ => (intOf dg).toNat)
    case atStart => exact ⟨4294967295, c3, a3, M3, rfl, rfl, hN3, hA3, by omega, HDQ.out, by omega, hU3⟩
    case round =>
      obtain ⟨d, c', a', M, rfl, rfl, hN, hA, hl, hd1, hd2, hU⟩ := hrel
      have HD1 : Hid _ := hd1
      clear hd1 hN3 hA3 hl3 hc31 hc32 hU3
      have hcm := compareLimbs_any a' a c' ca _ r M R wr hl (by omega) hA (HA.mono hU) hN nR
      by_cases hgt : r < d * y
      · rw [cmp3_gt hgt] at hcm
        have hd0 : 0 < d := by
          rcases Nat.eq_zero_or_pos d with h | h
          · rw [h, Nat.zero_mul] at hgt; omega
          · exact h
        go_wp2_with fail
        refine hcm.mono ?_
        rintro e w4 ⟨rfl, hU4⟩
        clear hcm
        go_wp2_with fail
        have hsb := subLimbs_any a' (some ⟨bb, ob, none⟩) c' cb _ y M B w4 hl (hA.mono hU4) ((At.mono HB.out hU).mono hU4) hN nB (Nat.le_mul_of_pos_left y hd0)
        rw [HM.out] at hsb
        refine hsb.mono ?_
        rintro e w5 ⟨hU5, a5, c5, M5, rfl, hN5, hA5, hl5, hc51, hc52, hf5⟩
        clear hsb
        go_wp2
        go_roundw
        case rel =>
          refine ⟨d - 1, c5, a5, M5, by go_num, rfl, ?_, hA5, by omega, ?_, by omega, (hU.trans hU4).trans hU5⟩
          · rw [Nat.sub_mul, Nat.one_mul]; exact hN5
          · have := (Nat.div_lt_iff_lt_mul hy).2 hgt; omega
        case measure => simp [intOf]; omega
      · have hle := cmp3_le _ _ hgt
        obtain ⟨z, hz⟩ : ∃ z, z = cmp3 (d * y) r := ⟨_, rfl⟩
        rw [← hz] at hcm hle
        clear hz
        go_wp2_with fail
        refine hcm.mono ?_
        rintro e w4 ⟨rfl, hU4⟩
        clear hcm
        go_wp2_with fail
        refine (subLimbs_any a a' ca c' r _ R M w4 (by omega) ((HA.mono hU).mono hU4) (hA.mono hU4) nR hN (by omega)).mono ?_
        rintro e w5 ⟨hU5, a5, c5, M5, rfl, hN5, hA5, hl5, hc51, hc52, hf5⟩
        go_wp2
        go_ret2
        obtain ⟨e1, e2⟩ := div_of_le r y d hy HD1.out (by omega)
        refine ⟨(hU.trans hU4).trans hU5, a5, c5, M5, by rw [← e1]; rfl, e2 ▸ hN5, hA5, hl5, hc51, hc52, hf5.le (Nat.le_trans hU.size hU4.size)⟩
  · go_enter Tryd.func73, Tryd.ntmps73
    go_wp2_with fail
    refine (limbAt_I a ca (m + 1) _ R w (by omega) (by omega) HA).mono ?_
    rintro e w1 ⟨rfl, rfl⟩
    rw [← HHI.out]
    go_wp2_with fail
    refine (limbAt_I a ca m _ R w1 (by omega) (by omega) HA).mono ?_
    rintro e w2 ⟨rfl, rfl⟩
    rw [← HLO.out]
    go_wp2_with fail
    have hs := scaled_any (some ⟨bb, ob, none⟩) _ _ cb _ 0 y B w2 (show (_ : Int) = ((D : Nat) : Int) from rfl) rfl (by omega) HB.out nB (by omega) (by omega)
    rw [HM.out] at hs
    refine hs.mono ?_
    rintro e w3 ⟨hU3, a3, c3, M3, rfl, hN3, hA3, hl3, hc31, hc32⟩
    clear hs
    go_wp2_with fail
    go_loopw [4, 8] (fun dg pt wr => ∃ d c' : Nat, ∃ a' : Option Addr, ∃ M : List Nat, dg = .int .u32 d ∧ pt = .slice a' M.length c' ∧ Norm M (d * y) ∧ At wr a' M ∧ M.length ≤ 1000 ∧ r / y ≤ d ∧ d ≤ 4294967295 ∧ Upd [] w2 wr) (fun dg _ _ => (intOf dg).toNat)
    case atStart => exact ⟨D, c3, a3, M3, rfl, rfl, hN3, hA3, by omega, HDQ.out, by omega, hU3⟩
    case round =>
      obtain ⟨d, c', a', M, rfl, rfl, hN, hA, hl, hd1, hd2, hU⟩ := hrel
      have HD1 : Hid _ := hd1
      clear hd1 hN3 hA3 hl3 hc31 hc32 hU3
      have hcm := compareLimbs_any a' a c' ca _ r M R wr hl (by omega) hA (HA.mono hU) hN nR
      by_cases hgt : r < d * y
      · rw [cmp3_gt hgt] at hcm
        have hd0 : 0 < d := by
          rcases Nat.eq_zero_or_pos d with h | h
          · rw [h, Nat.zero_mul] at hgt; omega
          · exact h
        go_wp2_with fail
        refine hcm.mono ?_
        rintro e w4 ⟨rfl, hU4⟩
        clear hcm
        go_wp2_with fail
        have hsb := subLimbs_any a' (some ⟨bb, ob, none⟩) c' cb _ y M B w4 hl (hA.mono hU4) ((At.mono HB.out hU).mono hU4) hN nB (Nat.le_mul_of_pos_left y hd0)
        rw [HM.out] at hsb
        refine hsb.mono ?_
        rintro e w5 ⟨hU5, a5, c5, M5, rfl, hN5, hA5, hl5, hc51, hc52, hf5⟩
        clear hsb
        go_wp2
        go_roundw
        case rel =>
          refine ⟨d - 1, c5, a5, M5, by go_num, rfl, ?_, hA5, by omega, ?_, by omega, (hU.trans hU4).trans hU5⟩
          · rw [Nat.sub_mul, Nat.one_mul]; exact hN5
          · have := (Nat.div_lt_iff_lt_mul hy).2 hgt; omega
        case measure => simp [intOf]; omega
      · have hle := cmp3_le _ _ hgt
        obtain ⟨z, hz⟩ : ∃ z, z = cmp3 (d * y) r := ⟨_, rfl⟩
        rw [← hz] at hcm hle
        clear hz
        go_wp2_with fail
        refine hcm.mono ?_
        rintro e w4 ⟨rfl, hU4⟩
        clear hcm
        go_wp2_with fail
        refine (subLimbs_any a a' ca c' r _ R M w4 (by omega) ((HA.mono hU).mono hU4) (hA.mono hU4) nR hN (by omega)).mono ?_
        rintro e w5 ⟨hU5, a5, c5, M5, rfl, hN5, hA5, hl5, hc51, hc52, hf5⟩
        go_wp2
        go_ret2
        obtain ⟨e1, e2⟩ := div_of_le r y d hy HD1.out (by omega)
        refine ⟨(hU.trans hU4).trans hU5, a5, c5, M5, by rw [← e1]; rfl, e2 ▸ hN5, hA5, hl5, hc51, hc52, hf5.le (Nat.le_trans hU.size hU4.size)⟩

/-- takeDigit: how often b is in rest, and what is left. -/
theorem takeDigit_any (a b : Option Addr) (ca cb r y : Nat) (R B : List Nat) (w : World) (hR : R.length ≤ 900) (hB : B.length ≤ 900) (HA : At w a R) (HB : At w b B) (nR : Norm R r) (nB : Norm B y) (hr : r < 4294967296 * y) :
    Calls Tryd.prog 73 #[.slice a R.length ca, .slice b B.length cb] w fun e w' =>
      Upd [] w w' ∧ ∃ a' c' M, e = .returned (.tuple #[.int .u32 ((r / y : Nat)), .slice a' M.length c']) ∧ Norm M (r % y) ∧ At w' a' M ∧ M.length ≤ R.length ∧ M.length ≤ c' ∧ c' ≤ 9223372036854775807 ∧ Fresh w.heap.size a' := by
  have hy : 0 < y := by
    rcases Nat.eq_zero_or_pos y with h | h
    · rw [h] at hr; omega
    · exact h
  obtain ⟨m, hm⟩ : ∃ m, B.length = m + 1 := by
    cases B with
    | nil => have := nB.eq; simp [val] at this; omega
    | cons x t => exact ⟨t.length, by simp⟩
  have hg := guess_ge R B r y m nR nB hm hr
  have ht : 0 < B.getD m 0 := by
    have h := nB.top (B.getD m 0) (by
      rw [List.getLast?_eq_getElem?, hm, Nat.add_sub_cancel, List.getD_eq_getElem?_getD, List.getElem?_eq_getElem (by omega)]; rfl)
    omega
  have hq2 : r / y ≤ 4294967295 := by
    have := (Nat.div_lt_iff_lt_mul hy).2 hr; omega
  have h1 := nR.dig.getD (m + 1)
  have h2 := nR.dig.getD m
  have h3 := nB.dig.getD m
  rw [hm]
  refine takeDigit_core a b ca cb r y m _ _ _ (R.getD (m + 1) 0 * 4294967296 + R.getD m 0) ((R.getD (m + 1) 0 * 4294967296 + R.getD m 0) / B.getD m 0) (min ((R.getD (m + 1) 0 * 4294967296 + R.getD m 0) / B.getD m 0) 4294967295) R B w hR hB HA HB nR nB hy hm rfl rfl rfl h1 h2 h3 ht (or_shift _ _ h1 h2) (quo_wrap64 _ _ ?_) ?_ ?_
  · generalize R.getD (m + 1) 0 = p at *
    generalize R.getD m 0 = q at *
    omega
  · generalize (R.getD (m + 1) 0 * 4294967296 + R.getD m 0) / B.getD m 0 = q
    rcases Nat.lt_or_ge 4294967295 q with h | h
    · exact Or.inl ⟨h, Nat.min_eq_right (by omega)⟩
    · exact Or.inr ⟨h, Nat.min_eq_left h⟩
  · exact Nat.le_min.2 ⟨hg, hq2⟩

end Go.Proofs.YtpjlhpopoacjdaaDoor

/- 'append([]uint32{x}, xs...)'. -/
namespace Go.Proofs.YtpjlhpopoacjdaaDoor
open Go.RowKit

theorem Blk.owns {w : World} {g : Nat} {X : List Nat} (h : Blk w g X) (hl : X.length ≤ 100000) : w.ownsRow g 53 1 (.slice (some ⟨g, 0, none⟩) X.length X.length) X.length (X.map (fun n => Value.int .u32 (n : Nat))) :=
  ⟨by simp, Or.inr ⟨g, X.length, u32s X, rfl, Nat.le_refl _, h, Nat.le_refl _, by unfold maxLen; omega, by simp [u32s], by rw [Nat.mul_one, List.take_of_length_le (by simp [u32s])]; simp [u32s]⟩⟩

theorem map_u32_get (M : List Nat) (j : Nat) (u : Value) (h : (M.map (fun n => Value.int .u32 (n : Nat)))[j]? = some u) : j < M.length ∧ u = .int .u32 (M.getD j 0 : Nat) := by
  rw [List.getElem?_map, Option.map_eq_some_iff] at h
  obtain ⟨n, h1, h2⟩ := h
  obtain ⟨hj, e⟩ := List.getElem?_eq_some_iff.1 h1
  exact ⟨hj, by rw [← h2, List.getD_eq_getElem?_getD, h1]; rfl⟩

/-- What is owned is there. -/
theorem owns_at {w : World} {base n : Nat} {v : Value} {L : List Nat} (h : w.ownsRow base 53 1 v n (L.map (fun n => Value.int .u32 (n : Nat)))) (hv : v ≠ .slice none 0 0) :
    n = L.length ∧ ∃ g cap, v = .slice (some ⟨g, 0, none⟩) n cap ∧ base ≤ g ∧ n ≤ cap ∧ cap ≤ 9223372036854775807 ∧ At w (some ⟨g, 0, none⟩) L := by
  obtain ⟨hl, ⟨h1, _⟩ | ⟨g, cap, cur, hv', hb, hh, hc1, hc2, hcs, hcu⟩⟩ := h
  · exact absurd h1 hv
  · have hn : n = L.length := by simpa using hl.symm
    refine ⟨hn, g, cap, hv', hb, hc1, by unfold maxLen at hc2; omega, ?_⟩
    refine Or.inr ⟨g, 0, rfl, lt_of_block hh, fun i hi => ?_⟩
    rw [Nat.zero_add, cell_of_row w g i _ _ _ hh]
    have e : cur.toList[i]? = (cur.toList.take (n * 1))[i]? := by rw [List.getElem?_take_of_lt (by omega)]
    rw [← Array.getElem?_toList, e, hcu, List.getElem?_map, List.getElem?_eq_getElem hi, List.getD_eq_getElem?_getD, List.getElem?_eq_getElem hi]
    rfl

theorem append_u32 (w : World) {ops : Array Oper} {rest : List Oper} {o : Oper} {a : Act} {Q : Exit → Act → World → Prop} (hgd : o.guard = none) (s x : Operand)
    (ho : o.op = .call { callee := .builtin .append, args := #[s, x], argTypes := #[23, 23] }) (g : Nat) (X M : List Nat) (a' : Option Addr) (n c' : Nat) (hX : X.length ≤ 1000) (hM : M.length ≤ 1000)
    (hn : n = X.length) (hs : a.eval s = .slice (some ⟨g, 0, none⟩) n n) (hB : Blk w g X) (hx : a.eval x = .slice a' M.length c') (HM : At w a' M)
    (h : ∀ g' cap' w', At w' (some ⟨g', 0, none⟩) (X ++ M) → Upd [g] w w' → (X ++ M).length ≤ cap' → cap' ≤ 9223372036854775807 → wpList Tryd.prog ops Q rest (a.put o.dst (.slice (some ⟨g', 0, none⟩) (X ++ M).length cap')) w') :
    wpList Tryd.prog ops Q (o :: rest) a w := by
  subst hn
  obtain ⟨i0, hi, hz0, hz1, hz2⟩ := info_parts info_u32
  have hlt := hB.lt
  refine wpList_plain hgd fun K hK => ?_
  rcases a' with _ | ad
  · have hM0 : M = [] := by
      rcases HM with h | ⟨b, o, e, _⟩
      · exact h
      · cases e
    subst hM0
    have hr := run_append_room_src (P := Tryd.prog) w 23 23 o.type 53 i0 Tryd.underlying23 hi g 0 X.length X.length (.slice none 0 c') 0 [] (Src.ofNil w Tryd.underlying23 c') (by omega) (fun j hj => by simp at hj) (fun j hj => by simp at hj)
    have e0 : w.setCells g (0 + X.length * i0.size) [] = w := rfl
    rw [e0] at hr
    unfold Oper.wp execOp
    simp only [List.length_nil] at hx
    simp only [ho, resolve, invoke, builtin, Sem.run_bind, Sem.run_pure, Result.andThen_ok, List.map_toArray, List.map_cons, List.map_nil, hs, hx, hr]
    refine hK _ _ ?_
    have hh := h g X.length w (by rw [List.append_nil]; exact hB.at) (Upd.refl _ _) (by simp) (by omega)
    rw [List.append_nil] at hh
    exact hh
  · have hnews : ∀ j u, (M.map (fun n => Value.int .u32 (n : Nat)))[j]? = some u → w.cell? (ad.add j) = some u := fun j u hj => by
      obtain ⟨h1, h2⟩ := map_u32_get M j u hj
      rcases HM with h | ⟨b, o, e, _, hc⟩
      · rw [h] at h1; simp at h1
      · cases e
        rw [h2, Addr.add_lit]; exact hc j h1
    obtain ⟨v', w', hr, hown, hgr, hnil⟩ := run_append_own (P := Tryd.prog) w g 23 o.type 53 i0 (.int .u32 0) 1 4 Tryd.underlying23 hi hz0 hz1 hz2 rfl (by decide) _ X.length _ (hB.owns (by omega)) ad M.length c' (M.map (fun n => Value.int .u32 (n : Nat))) (by simp) hnews
      (fun u hu => by obtain ⟨_, _, rfl⟩ := List.mem_map.1 hu; rfl) (by unfold maxLen; omega) (by omega) (Nat.le_of_lt hlt)
    rw [← List.map_append] at hown
    obtain ⟨hn, g', cap', rfl, hb, hc1, hc2, hat⟩ := owns_at hown (fun e => by have := (hnil.1 e).1; cases this)
    unfold Oper.wp execOp
    simp only [ho, resolve, invoke, builtin, Sem.run_bind, Sem.run_pure, Result.andThen_ok, List.map_toArray, List.map_cons, List.map_nil, hs, hx, hr]
    refine hK _ _ ?_
    rw [hn]
    exact h g' cap' w' hat ((Upd.refl _ _).grown hgr (fun k hk => Or.inr (by simp [Value.ownBlock] at hk; simp [hk]))) (by rw [← hn]; exact hc1) hc2

end Go.Proofs.YtpjlhpopoacjdaaDoor

/- divLimbs, by its contract. -/
namespace Go.Proofs.YtpjlhpopoacjdaaDoor
open Go.RowKit

theorem long_step (X A : List Nat) (i r Y : Nat) (hX : i < X.length) (hA : i < A.length) (he : val (X.drop (i + 1)) * Y + r = val (A.drop (i + 1))) :
    val ((X.set i ((A.getD i 0 + 4294967296 * r) / Y)).drop i) * Y + (A.getD i 0 + 4294967296 * r) % Y = val (A.drop i) := by
  rw [drop_set_self X i _ hX, val_cons, val_drop A i hA, ← he, Nat.add_mul, Nat.mul_assoc]
  have h := Nat.div_add_mod (A.getD i 0 + 4294967296 * r) Y
  rw [Nat.mul_comm] at h
  generalize (A.getD i 0 + 4294967296 * r) / Y * Y = u1 at *
  generalize (A.getD i 0 + 4294967296 * r) % Y = u2 at *
  generalize val (X.drop (i + 1)) * Y = u3 at *
  omega

theorem long_end (f x y q r : Nat) (hf : 0 < f) (hr : r < f * y) (h : q * (f * y) + r = f * x) : q = x / y ∧ r / f = x % y := by
  obtain ⟨h1, h2⟩ := div_end q (f * y) r (f * x) hr h
  rw [Nat.mul_div_mul_left _ _ hf] at h1
  rw [Nat.mul_mod_mul_left] at h2
  refine ⟨h1, ?_⟩
  rw [h2, Nat.mul_div_cancel_left _ hf]

theorem len_le_of_lt {M B : List Nat} {r Y : Nat} (nM : Norm M r) (nB : Norm B Y) (h : r < Y) : M.length ≤ B.length := by
  rcases Nat.lt_or_ge B.length M.length with h1 | h1
  · have := norm_lt_of_len nB nM h1; omega
  · exact h1

theorem below_next (a r Y : Nat) (ha : a < 4294967296) (hr : r < Y) : a + 4294967296 * r < 4294967296 * Y := by omega

theorem factor_bd (t : Nat) (ht : 0 < t) (htl : t < 4294967296) : 1 ≤ 4294967296 / (t + 1) ∧ 4294967296 / (t + 1) ≤ 2147483648 := by
  constructor
  · rw [Nat.le_div_iff_mul_le (by omega)]; omega
  · exact Nat.le_trans (Nat.div_le_div_left (show 2 ≤ t + 1 by omega) (by decide)) (by decide)

set_option maxHeartbeats 2000000 in
set_option maxRecDepth 100000 in
theorem divLimbs_core (a b : Option Addr) (ca cb x y m t f : Nat) (A B : List Nat) (w : World) (hA : A.length ≤ 100) (hB : B.length ≤ 100) (HA : At w a A) (HB : At w b B) (nA : Norm A x) (nB : Norm B y) (hy : 0 < y)
    (hm : B.length = m + 1) (ht : t = B.getD m 0) (ht0 : 0 < t) (htl : t < 4294967296) (hf1 : 1 ≤ f) (hf2 : f ≤ 2147483648) (hfw : (4294967296 : Int) / ((t : Int) + 1) = (f : Nat)) :
    Calls Tryd.prog 53 #[.slice a A.length ca, .slice b (m + 1) cb] w fun e w' =>
      Upd [] w w' ∧ ∃ a' c' M a'' c'' M', e = .returned (.tuple #[.slice a' M.length c', .slice a'' M'.length c'']) ∧ Norm M (x / y) ∧ At w' a' M ∧ Norm M' (x % y) ∧ At w' a'' M' ∧ M.length ≤ 200 ∧ M'.length ≤ 200 ∧ M.length ≤ c' ∧ c' ≤ 9223372036854775807 ∧ M'.length ≤ c'' ∧ c'' ≤ 9223372036854775807 := by
  have hm2 : m + 1 ≤ 100 := by omega
  rcases HB with h | ⟨bb, ob, rfl, hltb, hcb⟩
  · rw [h] at hm; simp at hm
  have hct := hcb m (by omega)
  rw [← ht] at hct
  have HM : Hid _ := hm
  have HB : Hid _ := (Or.inr ⟨bb, ob, rfl, hltb, hcb⟩ : At w (some ⟨bb, ob, none⟩) B)
  clear hm ht hcb
  go_enter Tryd.func53, Tryd.ntmps53
  go_wp2_with fail
  refine (scaled_any a _ _ ca f 0 x A w rfl rfl (by omega) HA nA (by omega) (by omega)).mono ?_
  rintro e w1 ⟨hU1, a1, c1, A1, rfl, nA1, hA1, hl1, hc11, hc12⟩
  go_wp2_with fail
  have hs := scaled_any (some ⟨bb, ob, none⟩) _ _ cb f 0 y B w1 (show ((f : Nat) : Int) = ((f : Nat) : Int) from rfl) rfl (by omega) (At.mono HB.out hU1) nB (by omega) (by omega)
  rw [HM.out] at hs
  refine hs.mono ?_
  rintro e w2 ⟨hU2, b1, cb1, B1, rfl, nB1, hB1, hlb1, hcb11, hcb12⟩
  clear hs
  rw [Nat.add_zero] at nA1 nB1
  have hA2 := hA1.mono hU2
  have hU12 := hU1.trans hU2
  have hY : 0 < f * y := Nat.mul_pos (by omega) hy
  clear hfw hct hA1 hU1 hU2
  go_wp2_with (at_make; refine make_u32 _ rfl _ _ rfl _ _ A1.length rfl rfl (by omega) (by omega) (by omega) ?_; intro w3 hblk hup3)
  have hg := hblk.lt
  go_loopw [5, 30] (fun rs i wr => ∃ k r c' : Nat, ∃ a' : Option Addr, ∃ X M : List Nat, k ≤ A1.length ∧ i = .int .i64 k ∧ rs = .slice a' M.length c' ∧ Norm M r ∧ At wr a' M ∧ r < f * y ∧ Blk wr w2.heap.size X ∧ X.length = A1.length ∧ Dig X ∧ Upd [] w2 wr ∧
      val (X.drop (A1.length - k)) * (f * y) + r = val (A1.drop (A1.length - k))) (fun _ i _ => A1.length - (intOf i).toNat)
  case atStart =>
    refine ⟨0, 0, 0, none, List.replicate A1.length 0, [], Nat.zero_le _, rfl, rfl, Norm.zero, At.nil _ _, hY, hblk, by simp, Dig.replicate _, hup3, ?_⟩
    rw [Nat.sub_zero, List.drop_of_length_le (by simp), List.drop_of_length_le (Nat.le_refl _)]; simp [val]
  case round =>
    obtain ⟨k, r, c', a', X, M, hk1, rfl, rfl, nM, hM, hr, hX, hXl, dX, hU, he⟩ := hrel
    have HE : Hid _ := he
    have HL : Hid _ := hXl
    have hMl : M.length ≤ 150 := Nat.le_trans (len_le_of_lt nM nB1 hr) (by omega)
    clear he hXl hblk hup3
    by_cases hk2 : k < A1.length
    · rcases hA2.mono hU with h | ⟨ba, oa, rfl, hlta, hca⟩
      · rw [h] at hk2; simp at hk2
      have hcx := hca (A1.length - 1 - k) (by omega)
      obtain ⟨z, hz⟩ : ∃ z, z = A1.getD (A1.length - 1 - k) 0 := ⟨_, rfl⟩
      rw [← hz] at hcx
      have HX : Hid _ := hz
      have hzl : z < 4294967296 := by rw [hz]; exact nA1.dig.getD _
      clear hz hca
      have HI : Hid (A1.length - 1 - k + 1 = A1.length - k) := by show _ = _; omega
      go_wp2_with (at_builtin; refine append_u32 _ rfl _ _ rfl wr.heap.size [z] M a' 1 c' (by simp) (by omega) rfl rfl ?_ rfl ?_ ?_; (exact heap_alloc_new _ _); (exact hM.mono ((Upd.refl _ _).alloc _)); intro g4 cap4 w4 hat4 hU4 hc41 hc42)
      have hdz : Dig ([z] ++ M) := by
        show Dig (z :: M)
        exact nM.dig.cons hzl
      have hv4 : val ([z] ++ M) = z + 4294967296 * r := by show val (z :: M) = _; rw [val_cons, nM.eq]
      have hU4' : Upd [] wr w4 := Upd.then ((Upd.refl [] wr).alloc _) hU4 (by simp)
      refine (trimmed_any _ _ ([z] ++ M) w4 (by simp; omega) hc41 hc42 hat4 hdz).mono ?_
      rintro e w5 ⟨rfl, a5, c5, M5, rfl, nM5, hA5, hl5, hc51, hc52⟩
      rw [hv4] at nM5
      have hl5' : M5.length ≤ 301 := by simp at hl5; omega
      clear hv4 hdz hat4 hc41 hc42 hl5
      go_wp2_with fail
      refine (takeDigit_any a5 b1 c5 cb1 _ (f * y) M5 B1 w5 (by omega) (by omega) hA5 ((hB1.mono hU).mono hU4') nM5 nB1 (below_next z r (f * y) hzl hr)).mono ?_
      rintro e w6 ⟨hU6, a6, c6, M6, rfl, nM6, hA6, hl6, hc61, hc62, hf6⟩
      have hU56 : Upd [] w2 w6 := (hU.trans hU4').trans hU6
      have hX6 := (hX.mono hU4' (by simp)).mono hU6 (by simp)
      have hql : (z + 4294967296 * r) / (f * y) < 4294967296 := (Nat.div_lt_iff_lt_mul hY).2 (below_next z r (f * y) hzl hr)
      have hrl := Nat.mod_lt (z + 4294967296 * r) hY
      have HD : Hid _ := long_step X A1 (A1.length - 1 - k) r (f * y) (by rw [HL.out]; omega) (by omega) (by rw [HI.out]; exact HE.out)
      rw [← HX.out] at HD
      generalize (z + 4294967296 * r) / (f * y) = q at *
      generalize (z + 4294967296 * r) % (f * y) = r2 at *
      have hcell := hX6.cell (A1.length - 1 - k) (by rw [HL.out]; omega)
      have hfree := hX6.free (A1.length - 1 - k)
      go_wp2
      go_roundw
      case rel =>
        refine ⟨k + 1, r2, c6, a6, _, M6, by omega, by go_num, rfl, nM6, ?_, hrl, hX6.set _ _, by rw [List.length_set]; exact HL.out, dX.set _ _ hql, hU56.setCell (Or.inl (Nat.le_refl _)) _, ?_⟩
        · refine hA6.set (fun p hp => ?_) _
          have h1 := hf6 p hp
          have h2 := hX.lt
          have h3 := hU4'.size
          show p.block ≠ w2.heap.size
          omega
        · rw [show A1.length - (k + 1) = A1.length - 1 - k by omega]
          exact HD.out
      case measure => simp [intOf]; omega
    · have hkm : k = A1.length := by omega
      go_wp2_with fail
      refine (divByLimb_any a' _ c' f r M wr rfl (by omega) hM nM (by omega) (by omega)).mono ?_
      rintro e w4 ⟨hU4, a4, c4, M4, rfl, nM4, hA4, hl4, hc41, hc42⟩
      go_wp2_with fail
      have hTl := HL.out
      have htr := trimmed_any _ X.length X w4 (by omega) (Nat.le_refl _) (by omega) (hX.mono hU4 (by simp)).at dX
      rw [hTl] at htr
      refine htr.mono ?_
      rintro e w5 ⟨rfl, a5, c5, M5, rfl, nM5, hA5, hl5, hc51, hc52⟩
      clear htr
      go_wp2
      go_ret2
      have hv := HE.out
      rw [hkm, Nat.sub_self, List.drop_zero, List.drop_zero, nA1.eq] at hv
      obtain ⟨e1, e2⟩ := long_end f x y (val X) r (by omega) hr hv
      exact ⟨(hU12.trans hU).trans hU4, a5, c5, M5, a4, c4, M4, rfl, e1 ▸ nM5, hA5, e2 ▸ nM4, hA4, by omega, by omega, hc51, hc52, hc41, hc42⟩

/-- divLimbs: quotient and rest. -/
theorem divLimbs_any (a b : Option Addr) (ca cb x y : Nat) (A B : List Nat) (w : World) (hA : A.length ≤ 100) (hB : B.length ≤ 100) (HA : At w a A) (HB : At w b B) (nA : Norm A x) (nB : Norm B y) (hy : 0 < y) :
    Calls Tryd.prog 53 #[.slice a A.length ca, .slice b B.length cb] w fun e w' =>
      Upd [] w w' ∧ ∃ a' c' M a'' c'' M', e = .returned (.tuple #[.slice a' M.length c', .slice a'' M'.length c'']) ∧ Norm M (x / y) ∧ At w' a' M ∧ Norm M' (x % y) ∧ At w' a'' M' ∧ M.length ≤ 200 ∧ M'.length ≤ 200 ∧ M.length ≤ c' ∧ c' ≤ 9223372036854775807 ∧ M'.length ≤ c'' ∧ c'' ≤ 9223372036854775807 := by
  obtain ⟨m, hm⟩ : ∃ m, B.length = m + 1 := by
    cases B with
    | nil => have := nB.eq; simp [val] at this; omega
    | cons x t => exact ⟨t.length, by simp⟩
  have ht : 0 < B.getD m 0 := by
    have h := nB.top (B.getD m 0) (by
      rw [List.getLast?_eq_getElem?, hm, Nat.add_sub_cancel, List.getD_eq_getElem?_getD, List.getElem?_eq_getElem (by omega)]; rfl)
    omega
  have htl := nB.dig.getD m
  obtain ⟨h1, h2⟩ := factor_bd _ ht htl
  rw [hm]
  exact divLimbs_core a b ca cb x y m _ (4294967296 / (B.getD m 0 + 1)) A B w hA hB HA HB nA nB hy hm rfl ht htl h1 h2 (by simp)

end Go.Proofs.YtpjlhpopoacjdaaDoor
