/- timesLimbs, by its contract. -/
import Derived.Test.YtnpocmhaoaigfaaGreatDoorAddL
import Derived.Deep.RegionWith
namespace Go.Proofs.YtnpocmhaoaigfaaGreatDoor
open Go.RowKit

/-- One step within: the limb at p takes low in place of what was there. -/
theorem times_step (X : List Nat) (p c low c' t : Nat) (hp : p < X.length) (h : low + 4294967296 * c' = c + (t + X.getD p 0)) :
    val (X.set p low) + 4294967296 ^ (p + 1) * c' = val X + 4294967296 ^ p * c + 4294967296 ^ p * t := by
  have h1 := val_set X p low hp
  have h2 := pow_split p low c'
  rw [h, Nat.mul_add, Nat.mul_add] at h2
  generalize 4294967296 ^ (p + 1) * c' = u1 at *
  generalize 4294967296 ^ p * low = u2 at *
  generalize 4294967296 ^ p * c = u3 at *
  generalize 4294967296 ^ p * t = u4 at *
  generalize 4294967296 ^ p * X.getD p 0 = u5 at *
  omega

theorem times_inner (X : List Nat) (B : List Nat) (i j c low c' v d : Nat) (hp : i + j < X.length) (he : val X + 4294967296 ^ (i + j) * c = v + 4294967296 ^ i * (d * val (B.take j)))
    (h : low + 4294967296 * c' = c + (d * B.getD j 0 + X.getD (i + j) 0)) :
    val (X.set (i + j) low) + 4294967296 ^ (i + j + 1) * c' = v + 4294967296 ^ i * (d * val (B.take (j + 1))) := by
  rw [times_step X (i + j) c low c' (d * B.getD j 0) hp h, he, val_take_succ, Nat.mul_add, Nat.mul_add, Nat.pow_add]
  rw [show 4294967296 ^ i * 4294967296 ^ j * (d * B.getD j 0) = 4294967296 ^ i * (d * (4294967296 ^ j * B.getD j 0)) by
    rw [Nat.mul_assoc, Nat.mul_left_comm (4294967296 ^ j) d]]
  omega

theorem times_lt (A B : List Nat) (i : Nat) (hi : i < A.length) (dA : Dig A) (dB : Dig B) : val (A.take (i + 1)) * val B < 4294967296 ^ (i + B.length + 1) := by
  have h1 := val_lt (dA.take (i + 1))
  have h2 := val_lt dB
  have e : (A.take (i + 1)).length = i + 1 := by simp; omega
  rw [e] at h1
  rw [show i + B.length + 1 = (i + 1) + B.length by omega, Nat.pow_add]
  exact Nat.mul_lt_mul'' h1 h2

theorem times_round (X A B : List Nat) (i c : Nat) (hi : i < A.length) (dA : Dig A) (dB : Dig B)
    (he : val X + 4294967296 ^ (i + (B.length + 1)) * c = val (A.take i) * val B + 4294967296 ^ i * (A.getD i 0 * val (B.take (B.length + 1)))) : val X = val (A.take (i + 1)) * val B := by
  rw [val_take_all B _ (by omega)] at he
  have h : val (A.take i) * val B + 4294967296 ^ i * (A.getD i 0 * val B) = val (A.take (i + 1)) * val B := by
    rw [val_take_succ, Nat.add_mul, Nat.mul_assoc]
  rw [h] at he
  have h6 := no_carry 0 0 _ c _ _ (times_lt A B i hi dA dB) he
  rw [h6, Nat.mul_zero, Nat.add_zero] at he
  exact he

set_option maxHeartbeats 2000000 in
set_option maxRecDepth 100000 in
theorem timesLimbs_core (a b : Option Addr) (ca cb : Nat) (A B : List Nat) (w : World) (hA : A.length ≤ 1000) (hB : B.length ≤ 1000) (HA : At w a A) (HB : At w b B) (dA : Dig A) (dB : Dig B) :
    Calls Tryz.prog 130 #[.slice a A.length ca, .slice b B.length cb] w fun e w' =>
      Upd [] w w' ∧ ∃ a' c' M, e = .returned (.slice a' M.length c') ∧ Norm M (val A * val B) ∧ At w' a' M ∧ M.length ≤ A.length + B.length ∧ M.length ≤ c' ∧ c' ≤ 9223372036854775807 := by
  go_enter Tryz.func130, Tryz.ntmps130
  go_wp2_with (at_make; refine make_u32 _ rfl _ _ rfl _ _ (A.length + B.length) rfl rfl (by omega) (by omega) (by omega) ?_; intro w0 hblk hup)
  have hg := hblk.lt
  go_loopw [17] (fun i wr => ∃ k : Nat, ∃ X : List Nat, k ≤ A.length ∧ i = .int .i64 k ∧ Blk wr w.heap.size X ∧ X.length = A.length + B.length ∧ Dig X ∧ Upd [] w wr ∧ w.heap.size < wr.heap.size ∧ val X = val (A.take k) * val B) (fun i _ => A.length - (intOf i).toNat)
  case atStart =>
    refine ⟨0, List.replicate (A.length + B.length) 0, Nat.zero_le _, rfl, hblk, by simp, Dig.replicate _, hup, hg, ?_⟩
    rw [val_replicate]; simp [val]
  case round =>
    rename World => wo
    obtain ⟨k, X, hk1, rfl, hX, hXl, dX, hU, hsz, he⟩ := hrel
    have HE : Hid _ := he
    have HL : Hid _ := hXl
    clear he hXl hblk hup
    by_cases hk2 : k < A.length
    · rcases HA.mono hU with h | ⟨ba, oa, rfl, hlta, hca⟩
      · rw [h] at hk2; simp at hk2
      have hcx := hca k hk2
      obtain ⟨x, hx⟩ : ∃ x, x = A.getD k 0 := ⟨_, rfl⟩
      rw [← hx] at hcx
      have HX : Hid _ := hx
      have hxl : x < 4294967296 := by rw [hx]; exact dA.getD k
      clear hx hca
      go_wp2_with fail
      refine (carrying_any _ _ x 0 _ rfl rfl (by omega)).mono ?_
      rintro e w1 ⟨rfl, hk, hbb, hup1⟩
      go_wp2_with fail
      go_loopw [28] (fun i ws => ∃ j c : Nat, ∃ Y : List Nat, j ≤ B.length + 1 ∧ i = .int .i64 j ∧ Blk ws w.heap.size Y ∧ Y.length = A.length + B.length ∧ Dig Y ∧ One ws (wo.heap.size + 1) .u64 68 c ∧ One ws wo.heap.size .u32 61 x ∧ c < 4294967296 ∧ Upd [] w ws ∧ w.heap.size < ws.heap.size ∧
          val Y + 4294967296 ^ (k + j) * c = val (A.take k) * val B + 4294967296 ^ k * (x * val (B.take j))) (fun i _ => B.length + 1 - (intOf i).toNat)
      case atStart =>
        refine ⟨0, 0, X, Nat.zero_le _, rfl, hX.mono hup1 (by simp), HL.out, dX, hk, hbb, by omega, hU.trans hup1, Nat.lt_of_lt_of_le hsz hup1.size, ?_⟩
        rw [HE.out]; simp [val]
      case round =>
        obtain ⟨j, c, Y, hj1, rfl, hY, hYl, dY, hK, hBB, hc, hV, hsz2, hf⟩ := hrel
        have HF : Hid _ := hf
        have HM : Hid _ := hYl
        clear hf hYl hk hbb hup1 hX
        by_cases hj2 : j < B.length + 1
        · have hcy := hY.cell (k + j) (by rw [HM.out]; omega)
          obtain ⟨z, hz⟩ : ∃ z, z = Y.getD (k + j) 0 := ⟨_, rfl⟩
          rw [← hz] at hcy
          have HZ : Hid _ := hz
          have hzl : z < 4294967296 := by rw [hz]; exact dY.getD _
          obtain ⟨y, hy⟩ : ∃ y, y = B.getD j 0 := ⟨_, rfl⟩
          have HY : Hid _ := hy
          have hyl : y < 4294967296 := by rw [hy]; exact dB.getD j
          have hlim : ∀ W, At W b B → Calls Tryz.prog 148 #[.slice b B.length cb, .int .i64 j] W fun e w' => e = .returned (.int .u32 (y : Nat)) ∧ w' = W := fun W hW => by
            rw [hy]; exact limbAt_any b cb j B W (by omega) hW
          have HLIM : Hid _ := hlim
          clear hy hz hlim
          obtain ⟨p, hp⟩ : ∃ p, p = k + j := ⟨_, rfl⟩
          rw [← hp] at hcy
          have hin : p < A.length + B.length := by omega
          have hwr : IntKind.i64.wrap ((k : Int) + (j : Int)) = (p : Int) := by
            rw [hp]; simp only [IntKind.wrap_i64]; omega
          have HP : Hid _ := hp
          clear hp
          go_wp2_with fail
          go_region_with (first
            | (go_at_call 148; refine (HLIM.out _ ?_).mono ?_; (first | exact HB.mono hV | exact HB.mono hV.drew); rintro e w3 ⟨rfl, rfl⟩)
            | (go_at_call 171; refine (carrying1_any y z c x _ _ _ hyl hzl hxl hc ?_ ?_).mono ?_; (exact hK); (exact hBB); rintro e w4 ⟨low, c', rfl, hlow, hc', hstep, hK4, hU4⟩; have HS : Hid _ := hstep; clear hstep; have hX4 := Blk.mono (w := wr.drew) hY hU4 (by simp; omega); have hcell := hX4.cell p (by rw [HM.out]; exact hin); have hfree := hX4.free p; have hB4 := One.mono (w := wr.drew) hBB hU4 (by simp)))
          all_goals
            go_wp2
            go_roundw
            case rel =>
              refine ⟨j + 1, _, _, by omega, by go_num, Blk.set hX4 p _, by rw [List.length_set]; exact HM.out, dY.set _ _ hlow, One.other hK4 _ (by show w.heap.size ≠ wo.heap.size + 1; omega) _, One.other hB4 _ (by show w.heap.size ≠ wo.heap.size; omega) _, hc', (Upd.then hV.drew hU4 (by simp; omega)).setCell (Or.inl (Nat.le_refl _)) _, ?_, ?_⟩
              · rw [World.size_setCell]; exact Nat.lt_of_lt_of_le hsz2 hU4.size
              · rw [HP.out]; exact times_inner Y B k j c _ _ _ x (by rw [HM.out]; omega) HF.out (by rw [← HZ.out, ← HY.out]; exact HS.out)
            case measure => simp [intOf]; omega
        · have hjm : j = B.length + 1 := by omega
          go_wp2
          go_roundw
          case rel =>
            refine ⟨k + 1, Y, by omega, by go_num, hY, HM.out, dY, hV, hsz2, ?_⟩
            refine times_round Y A B k c hk2 dA dB ?_
            rw [← HX.out, ← hjm]; exact HF.out
          case measure => simp [intOf]; omega
    · have hkm : k = A.length := by omega
      go_wp2_with fail
      have hTl := HL.out
      rw [← hTl]
      refine (trimmed_any _ _ X wo (by omega) (Nat.le_refl _) (by omega) hX.at dX).mono ?_
      rintro e w5 ⟨rfl, a', c', M, rfl, hN, hAt, hl, hc1, hc2⟩
      go_wp2
      go_ret
      subst hkm
      have hv := HE.out
      rw [val_take_all A _ (Nat.le_refl _)] at hv
      exact ⟨hU, a', c', M, rfl, hv ▸ hN, hAt, by omega, hc1, hc2⟩

/-- timesLimbs: the product. -/
theorem timesLimbs_any (a b : Option Addr) (ca cb x y : Nat) (A B : List Nat) (w : World) (hA : A.length ≤ 1000) (hB : B.length ≤ 1000) (HA : At w a A) (HB : At w b B) (nA : Norm A x) (nB : Norm B y) :
    Calls Tryz.prog 130 #[.slice a A.length ca, .slice b B.length cb] w fun e w' =>
      Upd [] w w' ∧ ∃ a' c' M, e = .returned (.slice a' M.length c') ∧ Norm M (x * y) ∧ At w' a' M ∧ M.length ≤ A.length + B.length ∧ M.length ≤ c' ∧ c' ≤ 9223372036854775807 := by
  have h := nA.eq
  have h' := nB.eq
  subst h h'
  exact timesLimbs_core a b ca cb A B w hA hB HA HB nA.dig nB.dig

end Go.Proofs.YtnpocmhaoaigfaaGreatDoor
