/- Of. -/
import Derived.Test.YtabknipgbmdipaaGreatDoorJAQ
import Derived.Test.YtabknipgbmdipaaGreatDoorJAP
import Derived.Test.YtabknipgbmdipaaGreatDoorJAO
import Derived.Test.YtabknipgbmdipaaGreatDoorJAK
import Derived.Test.YtabknipgbmdipaaGreatDoorJAD
import Derived.Lib.ItoaMem
import Derived.Test.YtabknipgbmdipaaGreatDoorR2J
import Derived.Test.YtabknipgbmdipaaGreatDoorJAE
import Derived.Deep.AppendLies
import Derived.Deep.RegionHeld3

namespace Go.Proofs.YtabknipgbmdipaaGreatDoor
open Go.RowKit

end Go.Proofs.YtabknipgbmdipaaGreatDoor

/- Of of the reference, by its contract. -/
namespace Go.Proofs.YtabknipgbmdipaaGreatDoor
open Go.RowKit

theorem bit_low (m : Nat) (hm : m < 18446744073709551616) : (bits BinOp.and IntKind.u64 (m : Int) 1 == 1) = decide (m % 2 = 1) := by
  rw [show (1 : Int) = ((1 : Nat) : Int) from rfl, bits_and_u64_nat m 1 hm (by decide), Nat.and_one_is_mod]
  have := Nat.mod_two_eq_zero_or_one m
  rcases this with h | h <;> rw [h] <;> rfl
theorem of_step (L : List Bool) (k m S : Nat) (b : Bool) (hb : b = decide (m % 2 = 1)) (hk : L.length = k) (he : nb L + 2 ^ k * m = S) : nb (L ++ [b]) + 2 ^ (k + 1) * (m / 2) = S := by
  have e : b.toNat + 2 * (m / 2) = m := by
    rw [hb]
    have := Nat.mod_two_eq_zero_or_one m
    rcases this with h | h <;> simp [h] <;> omega
  have h2 : 2 ^ k * (b.toNat + 2 * (m / 2)) = 2 ^ k * m := by rw [e]
  rw [nb_append, nb_one, hk, Nat.pow_succ, Nat.mul_assoc]
  rw [Nat.mul_add] at h2
  omega

def OfInv (W : World) (S : Nat) (mv v : Value) (wr : World) : Prop := ∃ (m k : Nat) (L : List Bool), mv = .int .u64 m ∧ OL wr W.heap.size v L ∧ L.length = k ∧ nb L + 2 ^ k * m = S ∧ m < 18446744073709551616 ∧ k ≤ 64 ∧ Upd [] W wr
theorem of_len (L : List Bool) (m S : Nat) (hm : 0 < m) (he : nb L + 2 ^ L.length * m = S) (hS : S < 18446744073709551616) : L.length < 64 := by
  have h1 : 2 ^ L.length * 1 ≤ 2 ^ L.length * m := Nat.mul_le_mul_left _ hm
  have h2 : 2 ^ L.length < 2 ^ 64 := by
    have : (2 : Nat) ^ 64 = 18446744073709551616 := by decide
    omega
  exact (Nat.pow_lt_pow_iff_right (a := 2) (by decide)).1 h2

set_option maxHeartbeats 2000000 in
set_option maxRecDepth 100000 in
theorem rOf_neg (S : Nat) (w : World) (h0 : 0 < S) (hb : S ≤ 9223372036854775808) :
    Calls Tryz.prog 68 #[.int .i64 (-(S : Int))] w fun e w' => Upd [] w w' ∧ ∃ neg a c M, e = .returned (.agg #[.int .u8 1, .bool neg, .slice a M.length c, .string ⟨#[]⟩, .int .i64 0, .slice none 0 0, .slice none 0 0]) ∧ TI w' neg a M (-(S : Int)) := by
  obtain ⟨i0, hi, hz0, hz1, hz2⟩ := info_parts info_bool
  have hw1 : IntKind.u64.wrap (-(S : Int)) = 18446744073709551616 - (S : Int) := by simp only [IntKind.wrap_u64]; omega
  have hw2 : IntKind.u64.wrap (-(18446744073709551616 - (S : Int))) = (S : Int) := by simp only [IntKind.wrap_u64]; omega
  have hlt : decide (-(S : Int) < 0) = true := by simp; omega
  go_enter Tryz.func68, Tryz.ntmps68
  go_wp2_with fail
  have u0 := (Upd.refl [] w).alloc (.cells #[.int .u8 0, .bool false, .slice none 0 0, .string ⟨#[]⟩, .int .i64 0, .slice none 0 0, .slice none 0 0] 26)
  have t0 := Tb.new w #[.int .u8 0, .bool false, .slice none 0 0, .string ⟨#[]⟩, .int .i64 0, .slice none 0 0, .slice none 0 0] _ rfl
  obtain ⟨W0, hW0⟩ : ∃ x, x = w.alloc (.cells #[.int .u8 0, .bool false, .slice none 0 0, .string ⟨#[]⟩, .int .i64 0, .slice none 0 0, .slice none 0 0] 26) := ⟨_, rfl⟩
  have hsz0 : W0.heap.size = w.heap.size + 1 := by rw [hW0]; simp
  rw [← hW0] at u0 t0 ⊢
  clear hW0
  go_loopw [3, 4] (OfInv W0 S) (fun mv _ _ => (intOf mv).toNat)
  case atStart => exact ⟨S, 0, [], rfl, OL.nil _ _, rfl, by simp [nb], by omega, by omega, Upd.refl _ _⟩
  case round =>
    obtain ⟨m, k, L, rfl, hO, hLl, hLv, hm, hk, hU⟩ := hrel
    have HLL : Hid (L.length = k) := hLl
    have HLV : Hid (nb L + 2 ^ k * m = S) := hLv
    have hszr := hU.size
    by_cases hm0 : m = 0
    · subst hm0
      obtain ⟨a1, c1, rfl, hBA, hF, hc1, hc2⟩ := hO.there
      have hn : nb L = S := by simpa using hLv
      have HN : Hid (nb L = S) := hn
      clear hLl hLv hn hO
      have t0r := t0.mono hU (by simp)
      go_wp2_with fail
      refine (made_any a1 c1 S true L wr (by rw [HLL.out]; omega) hc1 hc2 hBA HN.out).mono ?_
      rintro e w2 ⟨hR, hU2⟩
      have hz : sg true S = -(S : Int) := rfl
      rw [hz] at hR
      have hfit : (-(S : Int)).natAbs < 4294967296 ^ 32 := Nat.lt_of_lt_of_le (show (-(S : Int)).natAbs < 18446744073709551616 by omega) (by decide +kernel)
      obtain ⟨_, ng, a2, c2, M2, rfl, T2⟩ := hR.resolve_right (fun h => h.1 hfit)
      have I2 : Hid (TI w2 ng a2 M2 (-(S : Int))) := T2
      have t02 := t0r.mono hU2 (by simp)
      have U2 : Hid (Upd [] w w2) := (u0.trans hU).trans hU2
      clear hR hfit T2 hz t0r
      have u3 := (Upd.refl [] w2).alloc (.cells #[.int .u8 1, .bool ng, .slice a2 M2.length c2, .string ⟨#[]⟩, .int .i64 0, .slice none 0 0, .slice none 0 0] 26)
      have tt3 := Tb.new w2 #[.int .u8 1, .bool ng, .slice a2 M2.length c2, .string ⟨#[]⟩, .int .i64 0, .slice none 0 0, .slice none 0 0] _ rfl
      have t03 := t02.old (.cells #[.int .u8 1, .bool ng, .slice a2 M2.length c2, .string ⟨#[]⟩, .int .i64 0, .slice none 0 0, .slice none 0 0] 26)
      go_wp2_with (first | (refine load_T _ rfl _ rfl _ _ rfl tt3 rfl ?_) | (refine store_V _ rfl _ _ rfl _ _ _ _ _ _ _ _ _ _ _ _ _ _ _ rfl rfl t03 rfl ?_; intro w4 hT4 hU4))
      have I3 := I2.out.mono u3
      exact ret_T Tryz.results68 rfl _ _ rfl hT4 rfl ⟨(U2.out.trans u3).then hU4 (by simp), ng, a2, c2, M2, rfl, ⟨I3.norm, I3.mem.keep t03 hU4, I3.len, I3.sgn⟩⟩
    · have hlen : L.length < 64 := of_len L m S (by omega) (by rw [HLL.out]; exact hLv) (by omega)
      have hown : wr.ownsRow W0.heap.size 4 1 _ L.length (L.map Value.bool) := hO
      have HO : Hid (OL wr W0.heap.size _ L) := hO
      have hgt : decide ((m : Int) > 0) = true := by simp; omega
      clear hLl hLv hO
      go_wp2_with (at_builtin; refine wpList_append_own _ rfl _ _ 131 rfl W0.heap.size 4 i0 (.bool false) 1 1 Tryz.underlying131 hi hz0 hz1 hz2 rfl (by decide) _ _ _ rfl (hown.alloc _) ⟨wr.heap.size, 0, none⟩ 1 1 [.bool (bits BinOp.and IntKind.u64 (m : Int) 1 == 1)] rfl rfl (cell_one_new _ _ _) (by intro u hu; simp at hu; subst hu; rfl) (by unfold maxLen; omega) (by omega) (by simp; omega) ?_; intro v' w2 hown' hgrow _)
      go_roundw
      case rel =>
        exact ⟨m / 2, k + 1, L ++ [_], by go_num, OL.snoc hown', by rw [List.length_append, HLL.out]; rfl, of_step L k m S _ (bit_low m hm) HLL.out HLV.out, by omega, by rw [← HLL.out]; omega, (hU.alloc _).grown hgrow (fun k hk => Or.inl (World.ownsRow.lt HO.out k hk).1)⟩
      case measure => simp [intOf]; omega

set_option maxHeartbeats 2000000 in
set_option maxRecDepth 100000 in
theorem rOf_pos (S : Nat) (w : World) (hb : S ≤ 9223372036854775807) :
    Calls Tryz.prog 68 #[.int .i64 ((S : Int))] w fun e w' => Upd [] w w' ∧ ∃ neg a c M, e = .returned (.agg #[.int .u8 1, .bool neg, .slice a M.length c, .string ⟨#[]⟩, .int .i64 0, .slice none 0 0, .slice none 0 0]) ∧ TI w' neg a M ((S : Int)) := by
  obtain ⟨i0, hi, hz0, hz1, hz2⟩ := info_parts info_bool
  have hlt : decide ((S : Int) < 0) = false := by simp
  go_enter Tryz.func68, Tryz.ntmps68
  go_wp2_with fail
  have u0 := (Upd.refl [] w).alloc (.cells #[.int .u8 0, .bool false, .slice none 0 0, .string ⟨#[]⟩, .int .i64 0, .slice none 0 0, .slice none 0 0] 26)
  have t0 := Tb.new w #[.int .u8 0, .bool false, .slice none 0 0, .string ⟨#[]⟩, .int .i64 0, .slice none 0 0, .slice none 0 0] _ rfl
  obtain ⟨W0, hW0⟩ : ∃ x, x = w.alloc (.cells #[.int .u8 0, .bool false, .slice none 0 0, .string ⟨#[]⟩, .int .i64 0, .slice none 0 0, .slice none 0 0] 26) := ⟨_, rfl⟩
  have hsz0 : W0.heap.size = w.heap.size + 1 := by rw [hW0]; simp
  rw [← hW0] at u0 t0 ⊢
  clear hW0
  go_loopw [3, 4] (OfInv W0 S) (fun mv _ _ => (intOf mv).toNat)
  case atStart => exact ⟨S, 0, [], rfl, OL.nil _ _, rfl, by simp [nb], by omega, by omega, Upd.refl _ _⟩
  case round =>
    obtain ⟨m, k, L, rfl, hO, hLl, hLv, hm, hk, hU⟩ := hrel
    have HLL : Hid (L.length = k) := hLl
    have HLV : Hid (nb L + 2 ^ k * m = S) := hLv
    have hszr := hU.size
    by_cases hm0 : m = 0
    · subst hm0
      obtain ⟨a1, c1, rfl, hBA, hF, hc1, hc2⟩ := hO.there
      have hn : nb L = S := by simpa using hLv
      have HN : Hid (nb L = S) := hn
      clear hLl hLv hn hO
      have t0r := t0.mono hU (by simp)
      go_wp2_with fail
      refine (made_any a1 c1 S false L wr (by rw [HLL.out]; omega) hc1 hc2 hBA HN.out).mono ?_
      rintro e w2 ⟨hR, hU2⟩
      have hz : sg false S = (S : Int) := rfl
      rw [hz] at hR
      have hfit : ((S : Int)).natAbs < 4294967296 ^ 32 := Nat.lt_of_lt_of_le (show ((S : Int)).natAbs < 18446744073709551616 by omega) (by decide +kernel)
      obtain ⟨_, ng, a2, c2, M2, rfl, T2⟩ := hR.resolve_right (fun h => h.1 hfit)
      have I2 : Hid (TI w2 ng a2 M2 ((S : Int))) := T2
      have t02 := t0r.mono hU2 (by simp)
      have U2 : Hid (Upd [] w w2) := (u0.trans hU).trans hU2
      clear hR hfit T2 hz t0r
      have u3 := (Upd.refl [] w2).alloc (.cells #[.int .u8 1, .bool ng, .slice a2 M2.length c2, .string ⟨#[]⟩, .int .i64 0, .slice none 0 0, .slice none 0 0] 26)
      have tt3 := Tb.new w2 #[.int .u8 1, .bool ng, .slice a2 M2.length c2, .string ⟨#[]⟩, .int .i64 0, .slice none 0 0, .slice none 0 0] _ rfl
      have t03 := t02.old (.cells #[.int .u8 1, .bool ng, .slice a2 M2.length c2, .string ⟨#[]⟩, .int .i64 0, .slice none 0 0, .slice none 0 0] 26)
      go_wp2_with (first | (refine load_T _ rfl _ rfl _ _ rfl tt3 rfl ?_) | (refine store_V _ rfl _ _ rfl _ _ _ _ _ _ _ _ _ _ _ _ _ _ _ rfl rfl t03 rfl ?_; intro w4 hT4 hU4))
      have I3 := I2.out.mono u3
      exact ret_T Tryz.results68 rfl _ _ rfl hT4 rfl ⟨(U2.out.trans u3).then hU4 (by simp), ng, a2, c2, M2, rfl, ⟨I3.norm, I3.mem.keep t03 hU4, I3.len, I3.sgn⟩⟩
    · have hlen : L.length < 64 := of_len L m S (by omega) (by rw [HLL.out]; exact hLv) (by omega)
      have hown : wr.ownsRow W0.heap.size 4 1 _ L.length (L.map Value.bool) := hO
      have HO : Hid (OL wr W0.heap.size _ L) := hO
      have hgt : decide ((m : Int) > 0) = true := by simp; omega
      clear hLl hLv hO
      go_wp2_with (at_builtin; refine wpList_append_own _ rfl _ _ 131 rfl W0.heap.size 4 i0 (.bool false) 1 1 Tryz.underlying131 hi hz0 hz1 hz2 rfl (by decide) _ _ _ rfl (hown.alloc _) ⟨wr.heap.size, 0, none⟩ 1 1 [.bool (bits BinOp.and IntKind.u64 (m : Int) 1 == 1)] rfl rfl (cell_one_new _ _ _) (by intro u hu; simp at hu; subst hu; rfl) (by unfold maxLen; omega) (by omega) (by simp; omega) ?_; intro v' w2 hown' hgrow _)
      go_roundw
      case rel =>
        exact ⟨m / 2, k + 1, L ++ [_], by go_num, OL.snoc hown', by rw [List.length_append, HLL.out]; rfl, of_step L k m S _ (bit_low m hm) HLL.out HLV.out, by omega, by rw [← HLL.out]; omega, (hU.alloc _).grown hgrow (fun k hk => Or.inl (World.ownsRow.lt HO.out k hk).1)⟩
      case measure => simp [intOf]; omega

/-- Of of the reference: the integer. -/
theorem rOf_any (n : Int) (w : World) (hb : -9223372036854775808 ≤ n ∧ n ≤ 9223372036854775807) :
    Calls Tryz.prog 68 #[.int .i64 n] w fun e w' => Upd [] w w' ∧ ∃ neg a c M, e = .returned (.agg #[.int .u8 1, .bool neg, .slice a M.length c, .string ⟨#[]⟩, .int .i64 0, .slice none 0 0, .slice none 0 0]) ∧ TI w' neg a M n := by
  by_cases h : n < 0
  · obtain ⟨S, rfl⟩ : ∃ S : Nat, n = -(S : Int) := ⟨n.natAbs, by omega⟩
    exact rOf_neg S w (by omega) (by omega)
  · obtain ⟨S, rfl⟩ : ∃ S : Nat, n = (S : Int) := ⟨n.natAbs, by omega⟩
    exact rOf_pos S w (by omega)

end Go.Proofs.YtabknipgbmdipaaGreatDoor

/- The reference's num, Size, by their contracts; the digits of an integer. -/
namespace Go.Proofs.YtabknipgbmdipaaGreatDoor
open Go.RowKit

/-- The digits of a number. -/
def decN (u : Nat) : List Nat := if _h : u < 10 then [48 + u] else decN (u / 10) ++ [48 + u % 10]
termination_by u
decreasing_by omega
theorem decN_map (u : Nat) : Lib.decDigits u = (decN u).map (fun n => UInt8.ofNat n) := by
  induction u using Nat.strongRecOn with
  | ind u ih =>
    rw [Lib.decDigits, decN]
    by_cases h : u < 10
    · rw [dif_pos h, dif_pos h]; rfl
    · rw [dif_neg h, dif_neg h, ih (u / 10) (by omega), List.map_append]; rfl
theorem decN_norm (u : Nat) (h0 : u ≠ 0) : NormD (decN u).reverse u ∧ (decN u).reverse ≠ [] := by
  induction u using Nat.strongRecOn with
  | ind u ih =>
    rw [decN]
    by_cases h : u < 10
    · rw [dif_pos h]
      refine ⟨⟨fun c hc => ?_, ?_, fun x hx => ?_⟩, by simp⟩
      · simp at hc; omega
      · simp [dval]
      · simp at hx; omega
    · rw [dif_neg h]
      obtain ⟨⟨i1, i2, i3⟩, i4⟩ := ih (u / 10) (by omega) (by omega)
      rw [List.reverse_append]
      refine ⟨⟨fun c hc => ?_, ?_, fun x hx => i3 x ?_⟩, by simp⟩
      · simp only [List.reverse_cons, List.reverse_nil, List.nil_append, List.cons_append, List.mem_cons] at hc
        rcases hc with rfl | hc
        · omega
        · exact i1 c hc
      · simp only [List.reverse_cons, List.reverse_nil, List.nil_append, List.cons_append, dval]
        rw [i2]; omega
      · simp only [List.reverse_cons, List.reverse_nil, List.nil_append, List.cons_append] at hx
        rw [← hx]
        cases hr : (decN (u / 10)).reverse with
        | nil => exact absurd hr i4
        | cons a t => simp [List.getLast?_cons_cons]
theorem wtx_itoa (n : Int) (h : 0 ≤ n) : wtx n = Lib.itoa n := by
  obtain ⟨u, rfl⟩ : ∃ u : Nat, n = (u : Int) := ⟨n.toNat, by omega⟩
  have hT : IsText (decN u) (u : Int) := by
    refine ⟨decN u, by rw [if_neg (by omega)], ?_⟩
    have e : ((u : Int)).natAbs = u := by omega
    rw [e]
    by_cases h0 : u = 0
    · subst h0
      refine Or.inl ⟨rfl, ?_⟩
      rw [decN, dif_pos (by omega)]
    · exact Or.inr ⟨h0, (decN_norm u h0).1⟩
  rw [wtx_eq hT, Lib.itoa_nonneg, decN_map]

set_option maxHeartbeats 1000000 in
set_option maxRecDepth 100000 in
theorem num3_any (n : Int) (w : World) (h0 : 0 ≤ n) (h1 : n ≤ 1099511627776) : Calls Tryz.prog 90 #[.int .i64 n] w fun e w' => e = .returned (.string (str (Lib.itoa n))) ∧ Upd [] w w' := by
  obtain ⟨R, hR⟩ : ∃ R, R = str (Lib.itoa n) := ⟨_, rfl⟩
  have HT : Hid (∀ (W : World) neg a c (M : List Nat), TI W neg a M n → Calls Tryz.prog 88 #[.agg #[.int .u8 1, .bool neg, .slice a M.length c, .string ⟨#[]⟩, .int .i64 0, .slice none 0 0, .slice none 0 0]] W fun e w' => e = .returned (.string R) ∧ Upd [] W w') := fun W neg a c M hI => (rText_core a none none c 0 0 neg M n W hI).mono fun e w' ⟨hu, T, he, hT⟩ => ⟨by rw [he, hR, bs_str hT, wtx_itoa n h0], hu⟩
  rw [← hR]
  clear hR
  go_enter Tryz.func90, Tryz.ntmps90
  go_wp2_with fail
  refine (rOf_any n _ ⟨by omega, by omega⟩).mono ?_
  rintro e w1 ⟨hU1, neg, a, c, M, rfl, hI⟩
  go_wp2_with fail
  refine (HT.out _ neg a c M hI).mono ?_
  rintro e w2 ⟨rfl, hU2⟩
  go_wp2
  go_ret
  exact ⟨rfl, hU1.trans hU2⟩

set_option maxHeartbeats 1000000 in
set_option maxRecDepth 100000 in
/-- Size of the reference. -/
theorem size3_in (d : Nat) (w : World) (cs : List Value) (t : Tm) (h : In w d cs t) (hs : tsz t ≤ 1353245080330) (hc : cntT t ≤ 6000) :
    Calls Tryz.prog 16 #[.agg cs.toArray] w fun e w' => e = .returned (.int .i64 (szS t : Nat)) ∧ Upd [] w w' := by
  have HS : Hid (∀ W, Upd [] w W → Calls Tryz.prog 55 #[.agg cs.toArray] W fun e w' => e = .returned (.int .i64 (szI t)) ∧ Upd [] W w') := fun W hu => size2_in d W cs t (In.mono hu _ _ _ h) hs hc
  have HR : Hid (∀ W, Upd [] w W → Calls Tryz.prog 15 #[.agg cs.toArray] W fun e w' => e = .returned (.bool (okS t)) ∧ Upd [] W w') := fun W hu => right2_in d W cs t (In.mono hu _ _ _ h) hs hc
  have hsev := h.seven
  obtain ⟨C, hC⟩ : ∃ C, C = cs.toArray := ⟨_, rfl⟩
  rw [← hC] at hsev HS HR ⊢
  have tb0 : Tb (w.alloc (.cells C 26)) w.heap.size C := Tb.new _ _ _ rfl
  have HU : Hid (Upd [] w (w.alloc (.cells C 26))) := (Upd.refl [] w).alloc _
  clear h hs hc hC
  cases hok : okS t with
  | false =>
    have e : szS t = 0 := by unfold szS; rw [hok]; rfl
    rw [e]
    rw [hok] at HR
    clear hok e HS
    go_enter Tryz.func16, Tryz.ntmps16
    go_wp2_with (first | (refine load_T _ rfl _ rfl _ _ rfl tb0 hsev ?_) | fail)
    refine Calls.mono (HR.out _ HU.out) ?_
    rintro e w1 ⟨rfl, u1⟩
    go_wp2
    go_ret
    exact ⟨rfl, HU.out.trans u1⟩
  | true =>
    have e : szI t = (szS t : Nat) := by
      unfold szI szS
      have h1 : okT' t = true := by unfold okS at hok; rw [Bool.and_eq_true] at hok; exact hok.1
      rw [if_pos h1, if_pos hok]
    obtain ⟨z, hz⟩ : ∃ z : Nat, z = szS t := ⟨_, rfl⟩
    rw [e, ← hz] at HS
    rw [← hz]
    rw [hok] at HR
    clear hok e hz
    go_enter Tryz.func16, Tryz.ntmps16
    go_wp2_with (first | (refine load_T _ rfl _ rfl _ _ rfl tb0 hsev ?_) | fail)
    refine Calls.mono (HR.out _ HU.out) ?_
    rintro e w1 ⟨rfl, u1⟩
    have tb1 := tb0.mono u1 (by simp)
    go_wp2_with (first | (refine load_T _ rfl _ rfl _ _ rfl tb1 hsev ?_) | fail)
    refine Calls.mono (HS.out _ (HU.out.trans u1)) ?_
    rintro e w2 ⟨rfl, u2⟩
    go_wp2
    go_ret
    exact ⟨rfl, (HU.out.trans u1).trans u2⟩

end Go.Proofs.YtabknipgbmdipaaGreatDoor

/- The reference's atom, by its contract. -/
namespace Go.Proofs.YtabknipgbmdipaaGreatDoor
open Go.RowKit

theorem info_u8P : (Tryz.prog.info? 5).map (fun i => (i.zero, i.size, i.bytes)) = some (some (.int .u8 0), 1, 1) := by kernel_rfl
/-- A row of bytes of one's own. -/
def OY (w : World) (base : Nat) (v : Value) (l : List UInt8) : Prop := w.ownsRow base 5 1 v l.length (Lib.byteCells l) ∧ ∃ g c, v = .slice (some ⟨g, 0, none⟩) l.length c
theorem OY.upd {w w' : World} {base : Nat} {v : Value} {l : List UInt8} (h : OY w base v l) (hu : Upd [] w w') : OY w' base v l := ⟨own_upd h.1 hu (by simp), h.2⟩
theorem byteCells_one (l : List UInt8) : ∀ u ∈ Lib.byteCells l, u.oneCell' = true := by
  intro u hu
  unfold Lib.byteCells at hu
  obtain ⟨_, _, rfl⟩ := List.mem_map.1 hu
  rfl
/-- 'append(out, ..)' of a new row of bytes. -/
theorem append_B (w : World) {ops : Array Oper} {rest : List Oper} {o : Oper} {a : Act} {Q : Exit → Act → World → Prop} (hgd : o.guard = none) (s x : Operand)
    (ho : o.op = .call { callee := .builtin .append, args := #[s, x], argTypes := #[52, 52] }) (W0 : World) (base : Nat) (l m : List UInt8) (v : Value) (n c : Nat) (cs : Array Value) (hcs : cs = (Lib.byteCells m).toArray) (hn : n = m.length) (hm : l.length + m.length ≤ 1000000)
    (wr : World) (hw : w = wr.alloc (.cells cs 5)) (hs : a.eval s = v) (hown : OY wr base v l) (hx : a.eval x = .slice (some ⟨wr.heap.size, 0, none⟩) n c) (hU0 : Upd [] W0 wr) (hb : base ≤ wr.heap.size) (hb0 : W0.heap.size ≤ base) (hm0 : 0 < m.length)
    (h : ∀ v' w', OY w' base v' (l ++ m) → Upd [] W0 w' → wpList Tryz.prog ops Q rest (a.put o.dst v') w') :
    wpList Tryz.prog ops Q (o :: rest) a w := by
  subst hw
  subst hn
  obtain ⟨i0, hi, hz0, hz1, hz2⟩ := info_parts info_u8P
  have hl : (Lib.byteCells m).length = m.length := Lib.byteCells_length m
  refine wpList_plain hgd fun K hK => ?_
  obtain ⟨v', w', hr, hown', hgr, hnil⟩ := run_append_own (P := Tryz.prog) (wr.alloc (.cells cs 5)) base 52 o.type 5 i0 _ 1 1 Tryz.underlying52 hi hz0 hz1 hz2 rfl (by decide) _ l.length _ (hown.1.alloc _) ⟨wr.heap.size, 0, none⟩ m.length c (Lib.byteCells m) (by rw [hl]; omega) (by subst hcs; exact World.news_of_block (heap_alloc_new _ _)) (byteCells_one m) (by unfold maxLen; omega) (by omega) (by simp; omega)
  unfold Oper.wp execOp
  simp only [ho, resolve, invoke, builtin, Sem.run_bind, Sem.run_pure, Result.andThen_ok, List.map_toArray, List.map_cons, List.map_nil, hs, hx, hr]
  refine hK _ _ ?_
  refine h v' w' ⟨?_, ?_⟩ ((hU0.alloc _).grown hgr (fun k hk => Or.inl ?_))
  · rw [List.length_append, Lib.byteCells_append]; exact hown'
  · have hv := hown'
    obtain ⟨_, ⟨_, h0⟩ | ⟨g, cap, cur, e, _⟩⟩ := hv
    · omega
    · exact ⟨g, cap, by rw [e, List.length_append]⟩
  · have := (World.ownsRow.lt hown.1 k hk).1
    omega
theorem append_run (W0 : World) (base : Nat) (l m : List UInt8) (v : Value) (cs : Array Value) (hcs : cs = (Lib.byteCells m).toArray) (hm : l.length + m.length ≤ 1000000) (wr : World) (hown : OY wr base v l) (hU0 : Upd [] W0 wr) (hb : base ≤ wr.heap.size) (hb0 : W0.heap.size ≤ base) (hm0 : 0 < m.length) (ty : TypeId) (c : Nat) :
    ∃ v' w', (Builtin.append_ #[52, 52] ty #[v, .slice (some ⟨wr.heap.size, 0, none⟩) m.length c]).run Tryz.prog (wr.alloc (.cells cs 5)).drew = .ok v' w' ∧ OY w' base v' (l ++ m) ∧ Upd [] W0 w' := by
  obtain ⟨i0, hi, hz0, hz1, hz2⟩ := info_parts info_u8P
  have hl : (Lib.byteCells m).length = m.length := Lib.byteCells_length m
  have hd : OY wr.drew base v l := hown.upd (Upd.refl [] wr).drew
  obtain ⟨v', w', hr, hown', hgr, hnil⟩ := run_append_own (P := Tryz.prog) (wr.drew.alloc (.cells cs 5)) base 52 ty 5 i0 _ 1 1 Tryz.underlying52 hi hz0 hz1 hz2 rfl (by decide) _ l.length _ (hd.1.alloc _) ⟨wr.heap.size, 0, none⟩ m.length c (Lib.byteCells m) (by rw [hl]; omega) (by subst hcs; exact World.news_of_block (heap_alloc_new wr.drew _)) (byteCells_one m) (by unfold maxLen; omega) (by omega) (by simp; omega)
  refine ⟨v', w', hr, ⟨?_, ?_⟩, ((hU0.drew).alloc _).grown hgr (fun k hk => Or.inl ?_)⟩
  · rw [List.length_append, Lib.byteCells_append]; exact hown'
  · have hv := hown'
    obtain ⟨_, ⟨_, h0⟩ | ⟨g, cap, cur, e, _⟩⟩ := hv
    · omega
    · exact ⟨g, cap, by rw [e, List.length_append]⟩
  · have := (World.ownsRow.lt hown.1 k hk).1
    omega
/-- An append at a step of a region that draws its order. -/
theorem step_append {ops : Array Oper} {o : Oper} {a : Act} {w : World} {K : Act → World → Prop} {Q : Exit → Act → World → Prop} {E : Prop} (hgd : o.guard = none) (s x : Operand) (ho : o.op = .call { callee := .builtin .append, args := #[s, x], argTypes := #[52, 52] })
    (v u v' : Value) (w' : World) (hs : a.eval s = v) (hx : a.eval x = u) (hr : (Builtin.append_ #[52, 52] o.type #[v, u]).run Tryz.prog w = .ok v' w') (h : K (a.put o.dst v') w') :
    if Region.wanted o (yielded ops a.tmps) = true then Oper.wp Tryz.prog o a w K Q else E := by
  have hw : Region.wanted o (yielded ops a.tmps) = true := by simp [Region.wanted, hgd]
  rw [if_pos hw]
  unfold Oper.wp execOp
  simp only [ho, resolve, invoke, builtin, Sem.run_bind, Sem.run_pure, Result.andThen_ok, List.map_toArray, List.map_cons, List.map_nil, hs, hx, hr]
  exact h
/-- A row of bytes as a string. -/
theorem OY.conv {w : World} {base : Nat} {v : Value} {l : List UInt8} (h : OY w base v l) : (convert 52 9 v).run Tryz.prog w = .ok (.string (str l)) w := by
  obtain ⟨h1, g, c, rfl⟩ := h
  refine run_convert_bytes_back (P := Tryz.prog) _ 52 9 5 ⟨g, 0, none⟩ c l Tryz.underlying52 Tryz.underlying5 Tryz.underlying9 (fun j hj => ?_)
  have := World.ownsRow.cellAt h1 j (by omega)
  rw [Addr.add_lit, Nat.zero_add, this]
  simp [Lib.byteCells, hj]

set_option maxHeartbeats 4000000 in
set_option maxRecDepth 100000 in
theorem atom2_any (s : ByteArray) (w : World) (hs : s.size ≤ 1000) : Calls Tryz.prog 89 #[.string s] w fun e w' => e = .returned (.string (str (atomTx (byt s)))) ∧ Upd [] w w' := by
  cases hp : plainB (byt s) with
  | true =>
    have e : atomTx (byt s) = byt s := by unfold atomTx; rw [hp]; rfl
    rw [e, str_byt]
    have HP : Hid (Calls Tryz.prog 142 #[.string s] w fun e w' => e = .returned (.bool true) ∧ Upd [] w w') := by show Calls _ _ _ _ _; rw [← hp]; exact plain2_any s w (by omega)
    clear hp e
    go_enter Tryz.func89, Tryz.ntmps89
    go_wp2_with (go_at_call 142; refine HP.out.mono ?_; rintro e w1 ⟨rfl, hU1⟩)
    go_ret
    exact ⟨rfl, hU1⟩
  | false =>
    obtain ⟨R, hR⟩ : ∃ R, R = str (atomTx (byt s)) := ⟨_, rfl⟩
    have HRR : Hid (R = str (39 :: ((byt s).flatMap byteTx ++ [39]))) := by show _ = _; rw [hR]; unfold atomTx; rw [hp]; rfl
    rw [← hR]
    have HP : Hid (Calls Tryz.prog 142 #[.string s] w fun e w' => e = .returned (.bool false) ∧ Upd [] w w') := by show Calls _ _ _ _ _; rw [← hp]; exact plain2_any s w (by omega)
    clear hp hR
    go_enter Tryz.func89, Tryz.ntmps89
    go_wp2_with (go_at_call 142; refine HP.out.mono ?_; rintro e w1 ⟨rfl, hU1⟩)
    obtain ⟨W1, hW1⟩ : ∃ W1, W1 = w1.alloc (.cells #[.int .u8 39] 5) := ⟨_, rfl⟩
    have hs1 := hU1.size
    have HO1 : Hid (OY W1 w1.heap.size (.slice (some ⟨w1.heap.size, 0, none⟩) 1 1) (39 :: ((byt s).take 0).flatMap byteTx)) := by
      show OY _ _ _ _
      rw [hW1]
      exact ⟨⟨rfl, Or.inr ⟨w1.heap.size, 1, #[.int .u8 39], rfl, Nat.le_refl _, heap_alloc_new w1 _, Nat.le_refl _, by unfold maxLen; omega, rfl, rfl⟩⟩, w1.heap.size, 1, rfl⟩
    have HU1 : Hid (Upd [] w1 W1) := by show Upd _ _ _; rw [hW1]; exact (Upd.refl [] w1).alloc _
    have HU0 : Hid (Upd [] w w1) := hU1
    rw [← hW1]
    clear hW1 hU1 HP
    go_loopw [3, 4, 5] (fun v i _ wr => ∃ k : Nat, k ≤ s.size ∧ i = .int .i64 k ∧ OY wr w1.heap.size v (39 :: ((byt s).take k).flatMap byteTx) ∧ Upd [] w1 wr) (fun _ i _ _ => s.size - (intOf i).toNat)
    case atStart => exact ⟨0, Nat.zero_le _, rfl, HO1.out, HU1.out⟩
    case round =>
      obtain ⟨k, hk, rfl, hO, hU⟩ := hrel
      clear HO1 HU1
      have hfl : (39 :: ((byt s).take k).flatMap byteTx).length ≤ 4 * s.size + 1 := by
        have h1 := flat_len ((byt s).take k)
        have h2 : ((byt s).take k).length ≤ (byt s).length := by rw [List.length_take]; omega
        rw [byt_len] at h2
        rw [List.length_cons]; omega
      obtain ⟨l, hl⟩ : ∃ l, l = 39 :: ((byt s).take k).flatMap byteTx := ⟨_, rfl⟩
      rw [← hl] at hO hfl
      have hszr := hU.size
      have HO : Hid (OY wr w1.heap.size _ l) := hO
      obtain ⟨_, g, c, hv⟩ := hO
      subst hv
      have HU : Hid (Upd [] w1 wr) := hU
      clear hU
      by_cases hlt : k < s.size
      · have hlt' : (k : Int) < (s.size : Int) := by omega
        have hk2 : k < (byt s).length := by rw [byt_len]; exact hlt
        have HN : Hid (∀ m, m = byteTx s[k] → l ++ m = 39 :: ((byt s).take (k + 1)).flatMap byteTx) := fun m hm => by
          rw [hl, hm, flat_take _ _ hk2]; rfl
        obtain ⟨cb, hcb⟩ : ∃ cb, cb = s[k] := ⟨_, rfl⟩
        have hx : ∀ W, (Instr.index 9 (.string s) (.int .i64 (k : Int))).run Tryz.prog W = .ok (.int .u8 (cb.toNat : Int)) W := fun W => by
          rw [hcb]; exact idx_str s k hlt W
        rw [← hcb] at HN
        have hc2 : cb.toNat < 256 := cb.toNat_lt
        clear hcb hk2 hl
        by_cases q1 : cb.toNat = 92 ∨ cb.toNat = 39
        · have HM : Hid (byteTx cb = [92, cb]) := byteTx_1 cb q1
          rcases q1 with q1 | q1
          · have d1 : ((cb.toNat : Int) == 39) = false := by simp; omega
            have d2 : ((cb.toNat : Int) == 92) = true := by simp; omega
            clear q1
            go_wp2_with (at_builtin; refine append_B _ rfl _ _ rfl w1 w1.heap.size l [92, cb] _ _ _ _ rfl rfl (by simp; omega) wr rfl rfl HO.out rfl HU.out hszr (Nat.le_refl _) (by simp) ?_; intro v3 w3 hO3 hU3)
            go_roundw
            case rel => exact ⟨k + 1, by omega, by go_num, by rw [← HN.out _ HM.out.symm]; exact hO3, hU3⟩
            case measure => simp [intOf]; omega
          · have d1 : ((cb.toNat : Int) == 39) = true := by simp; omega
            clear q1
            go_wp2_with (at_builtin; refine append_B _ rfl _ _ rfl w1 w1.heap.size l [92, cb] _ _ _ _ rfl rfl (by simp; omega) wr rfl rfl HO.out rfl HU.out hszr (Nat.le_refl _) (by simp) ?_; intro v3 w3 hO3 hU3)
            go_roundw
            case rel => exact ⟨k + 1, by omega, by go_num, by rw [← HN.out _ HM.out.symm]; exact hO3, hU3⟩
            case measure => simp [intOf]; omega
        · have d1 : ((cb.toNat : Int) == 39) = false := by simp; omega
          have d2 : ((cb.toNat : Int) == 92) = false := by simp; omega
          by_cases q2 : cb.toNat = 10
          · have HM : Hid (byteTx cb = [92, 110]) := byteTx_2 cb q2
            have d3 : ((cb.toNat : Int) == 10) = true := by simp; omega
            clear q1 q2
            go_wp2_with (at_builtin; refine append_B _ rfl _ _ rfl w1 w1.heap.size l [92, 110] _ _ _ _ rfl rfl (by simp; omega) wr rfl rfl HO.out rfl HU.out hszr (Nat.le_refl _) (by simp) ?_; intro v3 w3 hO3 hU3)
            go_roundw
            case rel => exact ⟨k + 1, by omega, by go_num, by rw [← HN.out _ HM.out.symm]; exact hO3, hU3⟩
            case measure => simp [intOf]; omega
          · have d3 : ((cb.toNat : Int) == 10) = false := by simp; omega
            by_cases q3 : cb.toNat < 32 ∨ 126 < cb.toNat
            · have HM : Hid (byteTx cb = [92, 120, hexD (cb.toNat / 16), hexD (cb.toNat % 16)]) := byteTx_3 cb q1 q2 q3
              have i1 : ∀ w, (Instr.index 9 (.string ⟨#[48, 49, 50, 51, 52, 53, 54, 55, 56, 57, 97, 98, 99, 100, 101, 102]⟩) (.int .u8 ((cb.toNat : Int) / 16))).run Tryz.prog w = .ok (.int .u8 (hexD (cb.toNat / 16)).toNat) w := fun w => by
                have := hex_at (cb.toNat / 16) (by omega) w
                simpa using this
              have i2 : ∀ w, (Instr.index 9 (.string ⟨#[48, 49, 50, 51, 52, 53, 54, 55, 56, 57, 97, 98, 99, 100, 101, 102]⟩) (.int .u8 ((cb.toNat : Int) % 16))).run Tryz.prog w = .ok (.int .u8 (hexD (cb.toNat % 16)).toNat) w := fun w => by
                have := hex_at (cb.toNat % 16) (by omega) w
                simpa using this
              have j1 : IntKind.u8.wrap ((cb.toNat : Int) / 16) = (cb.toNat : Int) / 16 := by rw [IntKind.wrap_u8]; omega
              have j2 : IntKind.u8.wrap ((cb.toNat : Int) % 16) = (cb.toNat : Int) % 16 := by rw [IntKind.wrap_u8]; omega
              have j4 : (cb.toNat : Int).tmod 16 = (cb.toNat : Int) % 16 := Int.tmod_eq_emod_of_nonneg (by omega)
              have j3 : IntKind.u8.wrap ((cb.toNat : Int).tmod 16) = (cb.toNat : Int) % 16 := by rw [j4]; exact j2
              have j5 : ((cb.toNat : Int) % 16 < 16) := by omega
              have j6 : (0 : Int) ≤ (cb.toNat : Int) % 16 := by omega
              obtain ⟨h1, hh1⟩ : ∃ h1, h1 = hexD (cb.toNat / 16) := ⟨_, rfl⟩
              obtain ⟨h2, hh2⟩ : ∃ h2, h2 = hexD (cb.toNat % 16) := ⟨_, rfl⟩
              rw [← hh1] at i1 HM
              rw [← hh2] at i2 HM
              clear q1 q2 hh1 hh2
              obtain ⟨v3, w3, hr3, hO3, hU3⟩ := append_run w1 w1.heap.size l [92, 120, h1, h2] (.slice (some ⟨g, 0, none⟩) l.length c) #[.int .u8 92, .int .u8 120, .int .u8 h1.toNat, .int .u8 h2.toNat] rfl (by simp; omega) wr HO.out HU.out hszr (Nat.le_refl _) (by simp) 52 4
              have HO3 : Hid (OY w3 w1.heap.size v3 (l ++ [92, 120, h1, h2]) ∧ Upd [] w1 w3) := ⟨hO3, hU3⟩
              have hr4 : (Builtin.append_ #[52, 52] 52 #[.slice (some ⟨g, 0, none⟩) l.length c, .slice (some ⟨wr.heap.size, 0, none⟩) 4 4]).run Tryz.prog (wr.alloc (.cells #[.int .u8 92, .int .u8 120, .int .u8 h1.toNat, .int .u8 h2.toNat] 5)).drew = .ok v3 w3 := hr3
              clear hO3 hU3 hr3
              rcases q3 with q3 | q3
              · have d4 : decide ((cb.toNat : Int) < 32) = true := by simp; omega
                have d5 : (cb.toNat : Int) < 32 := by omega
                clear q3
                go_wp2_with fail
                refine wp_region_held_drew (S := fun _ => True) (by kernel_rfl) trivial (fun _ => ?_)
                refine wpAnyH_take (i := 0) (v := .slice (some ⟨g, 0, none⟩) l.length c) rfl (by kernel_rfl) (by kernel_rfl) (by kernel_rfl) (fun _ _ _ h => h) (Or.inl ⟨by rfl, ?_⟩) trivial ?_
                · intro w _; go_simp
                simp only [Act.put, List.getElem_toArray, List.getElem_cons_zero, List.setIfInBounds_toArray, List.set_cons_zero, List.set_cons_succ]
                refine wpAnyH_take (i := 1) (v := .int .u8 (cb.toNat : Int)) rfl (by kernel_rfl) (by kernel_rfl) (by kernel_rfl) (fun _ _ _ h => h) (Or.inl ⟨by rfl, ?_⟩) trivial ?_
                · intro w _; go_simp
                simp only [Act.put, List.getElem_toArray, List.getElem_cons_succ, List.getElem_cons_zero, List.setIfInBounds_toArray, List.set_cons_zero, List.set_cons_succ]
                refine wpAnyH_take (i := 2) (v := .int .u8 ((cb.toNat : Int) / 16)) rfl (by kernel_rfl) (by kernel_rfl) (by kernel_rfl) (fun _ _ _ h => h) (Or.inl ⟨by rfl, ?_⟩) trivial ?_
                · intro w _; go_simp
                simp only [Act.put, List.getElem_toArray, List.getElem_cons_succ, List.getElem_cons_zero, List.setIfInBounds_toArray, List.set_cons_zero, List.set_cons_succ]
                refine wpAnyH_take (i := 3) (v := .int .u8 (h1.toNat : Int)) rfl (by kernel_rfl) (by kernel_rfl) (by kernel_rfl) (fun _ _ _ h => h) (Or.inl ⟨by rfl, ?_⟩) trivial ?_
                · intro w _; go_simp
                simp only [Act.put, List.getElem_toArray, List.getElem_cons_succ, List.getElem_cons_zero, List.setIfInBounds_toArray, List.set_cons_zero, List.set_cons_succ]
                refine wpAnyH_take (i := 4) (v := .int .u8 (cb.toNat : Int)) rfl (by kernel_rfl) (by kernel_rfl) (by kernel_rfl) (fun _ _ _ h => h) (Or.inl ⟨by rfl, ?_⟩) trivial ?_
                · intro w _; go_simp
                simp only [Act.put, List.getElem_toArray, List.getElem_cons_succ, List.getElem_cons_zero, List.setIfInBounds_toArray, List.set_cons_zero, List.set_cons_succ]
                refine wpAnyH_take (i := 5) (v := .int .u8 ((cb.toNat : Int) % 16)) rfl (by kernel_rfl) (by kernel_rfl) (by kernel_rfl) (fun _ _ _ h => h) (Or.inl ⟨by rfl, ?_⟩) trivial ?_
                · intro w _; go_simp
                simp only [Act.put, List.getElem_toArray, List.getElem_cons_succ, List.getElem_cons_zero, List.setIfInBounds_toArray, List.set_cons_zero, List.set_cons_succ]
                refine wpAnyH_take (i := 6) (v := .int .u8 (h2.toNat : Int)) rfl (by kernel_rfl) (by kernel_rfl) (by kernel_rfl) (fun _ _ _ h => h) (Or.inl ⟨by rfl, ?_⟩) trivial ?_
                · intro w _; go_simp
                simp only [Act.put, List.getElem_toArray, List.getElem_cons_succ, List.getElem_cons_zero, List.setIfInBounds_toArray, List.set_cons_zero, List.set_cons_succ]
                refine wpAnyH_ready (rs := [7]) (by kernel_rfl) (by simp) (AllReadyH.cons rfl (fun K hK => ?_) AllReadyH.nil)
                go_simp
                refine hK.out _ _ trivial (fun _ => ?_)
                clear hK K
                refine wpAnyH_ready (rs := [8]) (by kernel_rfl) (by simp) (AllReadyH.cons rfl (fun K hK => ?_) AllReadyH.nil)
                refine step_append rfl _ _ rfl _ _ v3 w3 rfl rfl hr4 ?_
                refine hK.out _ _ trivial (fun _ => ?_)
                clear hK K
                simp only [Act.put, List.getElem_toArray, List.getElem_cons_succ, List.getElem_cons_zero, List.setIfInBounds_toArray, List.set_cons_zero, List.set_cons_succ]
                refine wpAnyH_take (i := 9) (v := v3) rfl (by kernel_rfl) (by kernel_rfl) (by kernel_rfl) (fun _ _ _ h => h) (Or.inl ⟨by rfl, ?_⟩) trivial ?_
                · intro w _; go_simp
                simp only [Act.put, List.getElem_toArray, List.getElem_cons_succ, List.getElem_cons_zero, List.setIfInBounds_toArray, List.set_cons_zero, List.set_cons_succ]
                refine wpAnyH_done (by kernel_rfl) ?_ _
                go_wp2
                go_roundw
                case rel => exact ⟨k + 1, by omega, by go_num, by rw [← HN.out _ HM.out.symm]; exact HO3.out.1, HO3.out.2⟩
                case measure => simp [intOf]; omega
              · have d4 : decide ((cb.toNat : Int) < 32) = false := by simp; omega
                have d5 : ¬ (cb.toNat : Int) < 32 := by omega
                have d6 : (126 : Int) < (cb.toNat : Int) := by omega
                have d7 : decide ((126 : Int) < (cb.toNat : Int)) = true := by simp; omega
                clear q3
                go_wp2_with fail
                refine wp_region_held_drew (S := fun _ => True) (by kernel_rfl) trivial (fun _ => ?_)
                refine wpAnyH_take (i := 0) (v := .slice (some ⟨g, 0, none⟩) l.length c) rfl (by kernel_rfl) (by kernel_rfl) (by kernel_rfl) (fun _ _ _ h => h) (Or.inl ⟨by rfl, ?_⟩) trivial ?_
                · intro w _; go_simp
                simp only [Act.put, List.getElem_toArray, List.getElem_cons_zero, List.setIfInBounds_toArray, List.set_cons_zero, List.set_cons_succ]
                refine wpAnyH_take (i := 1) (v := .int .u8 (cb.toNat : Int)) rfl (by kernel_rfl) (by kernel_rfl) (by kernel_rfl) (fun _ _ _ h => h) (Or.inl ⟨by rfl, ?_⟩) trivial ?_
                · intro w _; go_simp
                simp only [Act.put, List.getElem_toArray, List.getElem_cons_succ, List.getElem_cons_zero, List.setIfInBounds_toArray, List.set_cons_zero, List.set_cons_succ]
                refine wpAnyH_take (i := 2) (v := .int .u8 ((cb.toNat : Int) / 16)) rfl (by kernel_rfl) (by kernel_rfl) (by kernel_rfl) (fun _ _ _ h => h) (Or.inl ⟨by rfl, ?_⟩) trivial ?_
                · intro w _; go_simp
                simp only [Act.put, List.getElem_toArray, List.getElem_cons_succ, List.getElem_cons_zero, List.setIfInBounds_toArray, List.set_cons_zero, List.set_cons_succ]
                refine wpAnyH_take (i := 3) (v := .int .u8 (h1.toNat : Int)) rfl (by kernel_rfl) (by kernel_rfl) (by kernel_rfl) (fun _ _ _ h => h) (Or.inl ⟨by rfl, ?_⟩) trivial ?_
                · intro w _; go_simp
                simp only [Act.put, List.getElem_toArray, List.getElem_cons_succ, List.getElem_cons_zero, List.setIfInBounds_toArray, List.set_cons_zero, List.set_cons_succ]
                refine wpAnyH_take (i := 4) (v := .int .u8 (cb.toNat : Int)) rfl (by kernel_rfl) (by kernel_rfl) (by kernel_rfl) (fun _ _ _ h => h) (Or.inl ⟨by rfl, ?_⟩) trivial ?_
                · intro w _; go_simp
                simp only [Act.put, List.getElem_toArray, List.getElem_cons_succ, List.getElem_cons_zero, List.setIfInBounds_toArray, List.set_cons_zero, List.set_cons_succ]
                refine wpAnyH_take (i := 5) (v := .int .u8 ((cb.toNat : Int) % 16)) rfl (by kernel_rfl) (by kernel_rfl) (by kernel_rfl) (fun _ _ _ h => h) (Or.inl ⟨by rfl, ?_⟩) trivial ?_
                · intro w _; go_simp
                simp only [Act.put, List.getElem_toArray, List.getElem_cons_succ, List.getElem_cons_zero, List.setIfInBounds_toArray, List.set_cons_zero, List.set_cons_succ]
                refine wpAnyH_take (i := 6) (v := .int .u8 (h2.toNat : Int)) rfl (by kernel_rfl) (by kernel_rfl) (by kernel_rfl) (fun _ _ _ h => h) (Or.inl ⟨by rfl, ?_⟩) trivial ?_
                · intro w _; go_simp
                simp only [Act.put, List.getElem_toArray, List.getElem_cons_succ, List.getElem_cons_zero, List.setIfInBounds_toArray, List.set_cons_zero, List.set_cons_succ]
                refine wpAnyH_ready (rs := [7]) (by kernel_rfl) (by simp) (AllReadyH.cons rfl (fun K hK => ?_) AllReadyH.nil)
                go_simp
                refine hK.out _ _ trivial (fun _ => ?_)
                clear hK K
                refine wpAnyH_ready (rs := [8]) (by kernel_rfl) (by simp) (AllReadyH.cons rfl (fun K hK => ?_) AllReadyH.nil)
                refine step_append rfl _ _ rfl _ _ v3 w3 rfl rfl hr4 ?_
                refine hK.out _ _ trivial (fun _ => ?_)
                clear hK K
                simp only [Act.put, List.getElem_toArray, List.getElem_cons_succ, List.getElem_cons_zero, List.setIfInBounds_toArray, List.set_cons_zero, List.set_cons_succ]
                refine wpAnyH_take (i := 9) (v := v3) rfl (by kernel_rfl) (by kernel_rfl) (by kernel_rfl) (fun _ _ _ h => h) (Or.inl ⟨by rfl, ?_⟩) trivial ?_
                · intro w _; go_simp
                simp only [Act.put, List.getElem_toArray, List.getElem_cons_succ, List.getElem_cons_zero, List.setIfInBounds_toArray, List.set_cons_zero, List.set_cons_succ]
                refine wpAnyH_done (by kernel_rfl) ?_ _
                go_wp2
                go_roundw
                case rel => exact ⟨k + 1, by omega, by go_num, by rw [← HN.out _ HM.out.symm]; exact HO3.out.1, HO3.out.2⟩
                case measure => simp [intOf]; omega
            · have HM : Hid (byteTx cb = [cb]) := byteTx_4 cb q1 q2 q3
              have d4 : decide ((cb.toNat : Int) < 32) = false := by simp; omega
              have d5 : ¬ (cb.toNat : Int) < 32 := by omega
              have d6 : ¬ (126 : Int) < (cb.toNat : Int) := by omega
              have d7 : decide ((126 : Int) < (cb.toNat : Int)) = false := by simp; omega
              clear q1 q2 q3
              go_wp2_with (at_builtin; refine append_B _ rfl _ _ rfl w1 w1.heap.size l [cb] _ _ _ _ rfl rfl (by simp; omega) wr rfl rfl HO.out rfl HU.out hszr (Nat.le_refl _) (by simp) ?_; intro v3 w3 hO3 hU3)
              go_roundw
              case rel => exact ⟨k + 1, by omega, by go_num, by rw [← HN.out _ HM.out.symm]; exact hO3, hU3⟩
              case measure => simp [intOf]; omega
      · have hd : decide ((k : Int) < s.size) = false := by simp; omega
        have e : (byt s).take k = byt s := List.take_of_length_le (by rw [byt_len]; omega)
        have HE : Hid (l = 39 :: (byt s).flatMap byteTx) := by show _ = _; rw [hl, e]
        clear hl e
        go_wp2_with (at_builtin; refine append_B _ rfl _ _ rfl w1 w1.heap.size l [39] _ _ _ _ rfl rfl (by simp; omega) wr rfl rfl HO.out rfl HU.out hszr (Nat.le_refl _) (by simp) ?_; intro v3 w3 hO3 hU3; obtain ⟨X, hX⟩ : ∃ X, X = str (l ++ [39]) := ⟨_, rfl⟩; have hcv : (convert 52 9 v3).run Tryz.prog w3 = .ok (.string X) w3 := by (rw [hX]; exact hO3.conv))
        go_ret
        exact ⟨by rw [HRR.out, HE.out]; rfl, HU0.out.trans hU3⟩

end Go.Proofs.YtabknipgbmdipaaGreatDoor
