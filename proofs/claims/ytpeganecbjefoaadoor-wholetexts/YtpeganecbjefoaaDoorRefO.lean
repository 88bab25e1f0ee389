/- Of of the reference, by its contract. -/
import Derived.Test.YtpeganecbjefoaaDoorBitE
import Derived.Test.YtpeganecbjefoaaDoorOfT
namespace Go.Proofs.YtpeganecbjefoaaDoor
open Go.RowKit

theorem bit_low (m : Nat) (hm : m < 18446744073709551616) : (bits BinOp.and IntKind.u64 (m : Int) 1 == 1) = decide (m % 2 = 1) := by
  rw [show (1 : Int) = ((1 : Nat) : Int) from rfl, bits_and_u64_nat m 1 hm (by decide), Nat.and_one_is_mod]
  have := Nat.mod_two_eq_zero_or_one m
  rcases this with h | h <;> rw [h] <;> rfl
theorem of_step (L : List Bool) (k m S : Nat) (b : Bool) (hb : b = decide (m % 2 = 1)) (hk : L.length = k) (he : nb L + 2 ^ k * m = S) : nb (L ++ [b]) + 2 ^ (k + 1) * (m / 2) = S := by
  have e : b.toNat + 2 * (m / 2) = m := by
    rw [hb]
    have := Nat.mod_two_eq_zero_or_one m
    rcases this with h | h <;> simp [h] <;> omega
  have h2 : 2 ^ k * (b.toNat + 2 * (m / 2)) = 2 ^ k * m := by rw [e]
  rw [nb_append, nb_one, hk, Nat.pow_succ, Nat.mul_assoc]
  rw [Nat.mul_add] at h2
  omega

def OfInv (W : World) (S : Nat) (mv v : Value) (wr : World) : Prop := ∃ (m k : Nat) (L : List Bool), mv = .int .u64 m ∧ OL wr W.heap.size v L ∧ L.length = k ∧ nb L + 2 ^ k * m = S ∧ m < 18446744073709551616 ∧ k ≤ 64 ∧ Upd [] W wr
theorem of_len (L : List Bool) (m S : Nat) (hm : 0 < m) (he : nb L + 2 ^ L.length * m = S) (hS : S < 18446744073709551616) : L.length < 64 := by
  have h1 : 2 ^ L.length * 1 ≤ 2 ^ L.length * m := Nat.mul_le_mul_left _ hm
  have h2 : 2 ^ L.length < 2 ^ 64 := by
    have : (2 : Nat) ^ 64 = 18446744073709551616 := by decide
    omega
  exact (Nat.pow_lt_pow_iff_right (a := 2) (by decide)).1 h2

set_option maxHeartbeats 2000000 in
set_option maxRecDepth 100000 in
theorem rOf_neg (S : Nat) (w : World) (h0 : 0 < S) (hb : S ≤ 9223372036854775808) :
    Calls Tryd.prog 33 #[.int .i64 (-(S : Int))] w fun e w' => Upd [] w w' ∧ ∃ neg a c M, e = .returned (.agg #[.int .u8 1, .bool neg, .slice a M.length c, .string ⟨#[]⟩, .int .i64 0, .slice none 0 0, .slice none 0 0]) ∧ TI w' neg a M (-(S : Int)) := by
  obtain ⟨i0, hi, hz0, hz1, hz2⟩ := info_parts info_bool
  have hw1 : IntKind.u64.wrap (-(S : Int)) = 18446744073709551616 - (S : Int) := by simp only [IntKind.wrap_u64]; omega
  have hw2 : IntKind.u64.wrap (-(18446744073709551616 - (S : Int))) = (S : Int) := by simp only [IntKind.wrap_u64]; omega
  have hlt : decide (-(S : Int) < 0) = true := by simp; omega
  go_enter Tryd.func33, Tryd.ntmps33
  go_wp2_with fail
  have u0 := (Upd.refl [] w).alloc (.cells #[.int .u8 0, .bool false, .slice none 0 0, .string ⟨#[]⟩, .int .i64 0, .slice none 0 0, .slice none 0 0] 26)
  have t0 := Tb.new w #[.int .u8 0, .bool false, .slice none 0 0, .string ⟨#[]⟩, .int .i64 0, .slice none 0 0, .slice none 0 0] _ rfl
  obtain ⟨W0, hW0⟩ : ∃ x, x = w.alloc (.cells #[.int .u8 0, .bool false, .slice none 0 0, .string ⟨#[]⟩, .int .i64 0, .slice none 0 0, .slice none 0 0] 26) := ⟨_, rfl⟩
  have hsz0 : W0.heap.size = w.heap.size + 1 := by rw [hW0]; simp
  rw [← hW0] at u0 t0 ⊢
  clear hW0
  go_loopw [3, 4] (OfInv W0 S) (fun mv _ _ => (intOf mv).toNat)
  case atStart => exact ⟨S, 0, [], rfl, OL.nil _ _, rfl, by simp [nb], by omega, by omega, Upd.refl _ _⟩
  case round =>
    obtain ⟨m, k, L, rfl, hO, hLl, hLv, hm, hk, hU⟩ := hrel
    have HLL : Hid (L.length = k) := hLl
    have HLV : Hid (nb L + 2 ^ k * m = S) := hLv
    have hszr := hU.size
    by_cases hm0 : m = 0
    · subst hm0
      obtain ⟨a1, c1, rfl, hBA, hF, hc1, hc2⟩ := hO.there
      have hn : nb L = S := by simpa using hLv
      have HN : Hid (nb L = S) := hn
      clear hLl hLv hn hO
      have t0r := t0.mono hU (by simp)
      go_wp2_with fail
      refine (made_any a1 c1 S true L wr (by rw [HLL.out]; omega) hc1 hc2 hBA HN.out).mono ?_
      rintro e w2 ⟨hR, hU2⟩
      have hz : sg true S = -(S : Int) := rfl
      rw [hz] at hR
      have hfit : (-(S : Int)).natAbs < 4294967296 ^ 32 := Nat.lt_of_lt_of_le (show (-(S : Int)).natAbs < 18446744073709551616 by omega) (by decide +kernel)
      obtain ⟨_, ng, a2, c2, M2, rfl, T2⟩ := hR.resolve_right (fun h => h.1 hfit)
      have I2 : Hid (TI w2 ng a2 M2 (-(S : Int))) := T2
      have t02 := t0r.mono hU2 (by simp)
      have U2 : Hid (Upd [] w w2) := (u0.trans hU).trans hU2
      clear hR hfit T2 hz t0r
      have u3 := (Upd.refl [] w2).alloc (.cells #[.int .u8 1, .bool ng, .slice a2 M2.length c2, .string ⟨#[]⟩, .int .i64 0, .slice none 0 0, .slice none 0 0] 26)
      have tt3 := Tb.new w2 #[.int .u8 1, .bool ng, .slice a2 M2.length c2, .string ⟨#[]⟩, .int .i64 0, .slice none 0 0, .slice none 0 0] _ rfl
      have t03 := t02.old (.cells #[.int .u8 1, .bool ng, .slice a2 M2.length c2, .string ⟨#[]⟩, .int .i64 0, .slice none 0 0, .slice none 0 0] 26)
      go_wp2_with (first | (refine load_T _ rfl _ rfl _ _ rfl tt3 rfl ?_) | (refine store_V _ rfl _ _ rfl _ _ _ _ _ _ _ _ _ _ _ _ _ _ _ rfl rfl t03 rfl ?_; intro w4 hT4 hU4))
      have I3 := I2.out.mono u3
      exact ret_T Tryd.results33 rfl _ _ rfl hT4 rfl ⟨(U2.out.trans u3).then hU4 (by simp), ng, a2, c2, M2, rfl, ⟨I3.norm, I3.mem.keep t03 hU4, I3.len, I3.sgn⟩⟩
    · have hlen : L.length < 64 := of_len L m S (by omega) (by rw [HLL.out]; exact hLv) (by omega)
      have hown : wr.ownsRow W0.heap.size 4 1 _ L.length (L.map Value.bool) := hO
      have HO : Hid (OL wr W0.heap.size _ L) := hO
      have hgt : decide ((m : Int) > 0) = true := by simp; omega
      clear hLl hLv hO
      go_wp2_with (at_builtin; refine wpList_append_own _ rfl _ _ 47 rfl W0.heap.size 4 i0 (.bool false) 1 1 Tryd.underlying47 hi hz0 hz1 hz2 rfl (by decide) _ _ _ rfl (hown.alloc _) ⟨wr.heap.size, 0, none⟩ 1 1 [.bool (bits BinOp.and IntKind.u64 (m : Int) 1 == 1)] rfl rfl (cell_one_new _ _ _) (by intro u hu; simp at hu; subst hu; rfl) (by unfold maxLen; omega) (by omega) (by simp; omega) ?_; intro v' w2 hown' hgrow _)
      go_roundw
      case rel =>
        exact ⟨m / 2, k + 1, L ++ [_], by go_num, OL.snoc hown', by rw [List.length_append, HLL.out]; rfl, of_step L k m S _ (bit_low m hm) HLL.out HLV.out, by omega, by rw [← HLL.out]; omega, (hU.alloc _).grown hgrow (fun k hk => Or.inl (World.ownsRow.lt HO.out k hk).1)⟩
      case measure => simp [intOf]; omega

set_option maxHeartbeats 2000000 in
set_option maxRecDepth 100000 in
theorem rOf_pos (S : Nat) (w : World) (hb : S ≤ 9223372036854775807) :
    Calls Tryd.prog 33 #[.int .i64 ((S : Int))] w fun e w' => Upd [] w w' ∧ ∃ neg a c M, e = .returned (.agg #[.int .u8 1, .bool neg, .slice a M.length c, .string ⟨#[]⟩, .int .i64 0, .slice none 0 0, .slice none 0 0]) ∧ TI w' neg a M ((S : Int)) := by
  obtain ⟨i0, hi, hz0, hz1, hz2⟩ := info_parts info_bool
  have hlt : decide ((S : Int) < 0) = false := by simp
  go_enter Tryd.func33, Tryd.ntmps33
  go_wp2_with fail
  have u0 := (Upd.refl [] w).alloc (.cells #[.int .u8 0, .bool false, .slice none 0 0, .string ⟨#[]⟩, .int .i64 0, .slice none 0 0, .slice none 0 0] 26)
  have t0 := Tb.new w #[.int .u8 0, .bool false, .slice none 0 0, .string ⟨#[]⟩, .int .i64 0, .slice none 0 0, .slice none 0 0] _ rfl
  obtain ⟨W0, hW0⟩ : ∃ x, x = w.alloc (.cells #[.int .u8 0, .bool false, .slice none 0 0, .string ⟨#[]⟩, .int .i64 0, .slice none 0 0, .slice none 0 0] 26) := ⟨_, rfl⟩
  have hsz0 : W0.heap.size = w.heap.size + 1 := by rw [hW0]; simp
  rw [← hW0] at u0 t0 ⊢
  clear hW0
  go_loopw [3, 4] (OfInv W0 S) (fun mv _ _ => (intOf mv).toNat)
  case atStart => exact ⟨S, 0, [], rfl, OL.nil _ _, rfl, by simp [nb], by omega, by omega, Upd.refl _ _⟩
  case round =>
    obtain ⟨m, k, L, rfl, hO, hLl, hLv, hm, hk, hU⟩ := hrel
    have HLL : Hid (L.length = k) := hLl
    have HLV : Hid (nb L + 2 ^ k * m = S) := hLv
    have hszr := hU.size
    by_cases hm0 : m = 0
    · subst hm0
      obtain ⟨a1, c1, rfl, hBA, hF, hc1, hc2⟩ := hO.there
      have hn : nb L = S := by simpa using hLv
      have HN : Hid (nb L = S) := hn
      clear hLl hLv hn hO
      have t0r := t0.mono hU (by simp)
      go_wp2_with fail
      refine (made_any a1 c1 S false L wr (by rw [HLL.out]; omega) hc1 hc2 hBA HN.out).mono ?_
      rintro e w2 ⟨hR, hU2⟩
      have hz : sg false S = (S : Int) := rfl
      rw [hz] at hR
      have hfit : ((S : Int)).natAbs < 4294967296 ^ 32 := Nat.lt_of_lt_of_le (show ((S : Int)).natAbs < 18446744073709551616 by omega) (by decide +kernel)
      obtain ⟨_, ng, a2, c2, M2, rfl, T2⟩ := hR.resolve_right (fun h => h.1 hfit)
      have I2 : Hid (TI w2 ng a2 M2 ((S : Int))) := T2
      have t02 := t0r.mono hU2 (by simp)
      have U2 : Hid (Upd [] w w2) := (u0.trans hU).trans hU2
      clear hR hfit T2 hz t0r
      have u3 := (Upd.refl [] w2).alloc (.cells #[.int .u8 1, .bool ng, .slice a2 M2.length c2, .string ⟨#[]⟩, .int .i64 0, .slice none 0 0, .slice none 0 0] 26)
      have tt3 := Tb.new w2 #[.int .u8 1, .bool ng, .slice a2 M2.length c2, .string ⟨#[]⟩, .int .i64 0, .slice none 0 0, .slice none 0 0] _ rfl
      have t03 := t02.old (.cells #[.int .u8 1, .bool ng, .slice a2 M2.length c2, .string ⟨#[]⟩, .int .i64 0, .slice none 0 0, .slice none 0 0] 26)
      go_wp2_with (first | (refine load_T _ rfl _ rfl _ _ rfl tt3 rfl ?_) | (refine store_V _ rfl _ _ rfl _ _ _ _ _ _ _ _ _ _ _ _ _ _ _ rfl rfl t03 rfl ?_; intro w4 hT4 hU4))
      have I3 := I2.out.mono u3
      exact ret_T Tryd.results33 rfl _ _ rfl hT4 rfl ⟨(U2.out.trans u3).then hU4 (by simp), ng, a2, c2, M2, rfl, ⟨I3.norm, I3.mem.keep t03 hU4, I3.len, I3.sgn⟩⟩
    · have hlen : L.length < 64 := of_len L m S (by omega) (by rw [HLL.out]; exact hLv) (by omega)
      have hown : wr.ownsRow W0.heap.size 4 1 _ L.length (L.map Value.bool) := hO
      have HO : Hid (OL wr W0.heap.size _ L) := hO
      have hgt : decide ((m : Int) > 0) = true := by simp; omega
      clear hLl hLv hO
      go_wp2_with (at_builtin; refine wpList_append_own _ rfl _ _ 47 rfl W0.heap.size 4 i0 (.bool false) 1 1 Tryd.underlying47 hi hz0 hz1 hz2 rfl (by decide) _ _ _ rfl (hown.alloc _) ⟨wr.heap.size, 0, none⟩ 1 1 [.bool (bits BinOp.and IntKind.u64 (m : Int) 1 == 1)] rfl rfl (cell_one_new _ _ _) (by intro u hu; simp at hu; subst hu; rfl) (by unfold maxLen; omega) (by omega) (by simp; omega) ?_; intro v' w2 hown' hgrow _)
      go_roundw
      case rel =>
        exact ⟨m / 2, k + 1, L ++ [_], by go_num, OL.snoc hown', by rw [List.length_append, HLL.out]; rfl, of_step L k m S _ (bit_low m hm) HLL.out HLV.out, by omega, by rw [← HLL.out]; omega, (hU.alloc _).grown hgrow (fun k hk => Or.inl (World.ownsRow.lt HO.out k hk).1)⟩
      case measure => simp [intOf]; omega

/-- Of of the reference: the integer. -/
theorem rOf_any (n : Int) (w : World) (hb : -9223372036854775808 ≤ n ∧ n ≤ 9223372036854775807) :
    Calls Tryd.prog 33 #[.int .i64 n] w fun e w' => Upd [] w w' ∧ ∃ neg a c M, e = .returned (.agg #[.int .u8 1, .bool neg, .slice a M.length c, .string ⟨#[]⟩, .int .i64 0, .slice none 0 0, .slice none 0 0]) ∧ TI w' neg a M n := by
  by_cases h : n < 0
  · obtain ⟨S, rfl⟩ : ∃ S : Nat, n = -(S : Int) := ⟨n.natAbs, by omega⟩
    exact rOf_neg S w (by omega) (by omega)
  · obtain ⟨S, rfl⟩ : ∃ S : Nat, n = (S : Int) := ⟨n.natAbs, by omega⟩
    exact rOf_pos S w (by omega)

end Go.Proofs.YtpeganecbjefoaaDoor
