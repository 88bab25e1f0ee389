/- bits of the reference, by its contract. -/
import Derived.Test.YtpeganecbjefoaaDoorBitB
import Derived.Test.YtpeganecbjefoaaDoorTrm
import Derived.Test.YtpeganecbjefoaaDoorSumT
namespace Go.Proofs.YtpeganecbjefoaaDoor
open Go.RowKit

theorem and_u32 (a b : Nat) (ha : a < 4294967296) (hb : b < 4294967296) : bits .and .u32 (a : Int) (b : Int) = ((a &&& b : Nat) : Int) := by
  have hx : a &&& b < 2 ^ 32 := Nat.and_lt_two_pow _ (by omega)
  have h1 : (BitVec.ofInt 32 (a : Int)).toNat = a := by
    rw [BitVec.ofInt_natCast, BitVec.toNat_ofNat]; exact Nat.mod_eq_of_lt (by omega)
  have h2 : (BitVec.ofInt 32 (b : Int)).toNat = b := by
    rw [BitVec.ofInt_natCast, BitVec.toNat_ofNat]; exact Nat.mod_eq_of_lt (by omega)
  show IntKind.u32.wrap ((BitVec.ofInt 32 (a : Int) &&& BitVec.ofInt 32 (b : Int)).toNat : Int) = _
  rw [BitVec.toNat_and, h1, h2, IntKind.wrap_u32]
  omega
theorem or_u32 (a b : Nat) (ha : a < 4294967296) (hb : b < 4294967296) : bits .or .u32 (a : Int) (b : Int) = ((a ||| b : Nat) : Int) := by
  have hx : a ||| b < 2 ^ 32 := Nat.or_lt_two_pow (by omega) (by omega)
  have h1 : (BitVec.ofInt 32 (a : Int)).toNat = a := by
    rw [BitVec.ofInt_natCast, BitVec.toNat_ofNat]; exact Nat.mod_eq_of_lt (by omega)
  have h2 : (BitVec.ofInt 32 (b : Int)).toNat = b := by
    rw [BitVec.ofInt_natCast, BitVec.toNat_ofNat]; exact Nat.mod_eq_of_lt (by omega)
  show IntKind.u32.wrap ((BitVec.ofInt 32 (a : Int) ||| BitVec.ofInt 32 (b : Int)).toNat : Int) = _
  rw [BitVec.toNat_or, h1, h2, IntKind.wrap_u32]
  omega
theorem bit_at (x j : Nat) (hx : x < 4294967296) : (bits BinOp.and IntKind.u32 ((x : Int) / 2 ^ j) 1 == 1) = decide (x / 2 ^ j % 2 = 1) := by
  have e : (x : Int) / 2 ^ j = ((x / 2 ^ j : Nat) : Int) := by simp
  have hl : x / 2 ^ j < 4294967296 := Nat.lt_of_le_of_lt (Nat.div_le_self _ _) hx
  rw [e, show (1 : Int) = ((1 : Nat) : Int) from rfl, and_u32 _ _ hl (by decide), Nat.and_one_is_mod]
  have := Nat.mod_two_eq_zero_or_one (x / 2 ^ j)
  rcases this with h | h <;> rw [h] <;> rfl

theorem bit_step (E : List Bool) (x j : Nat) (b : Bool) (hl : E.length = j) (he : nb E = x % 2 ^ j) (hb : b = decide (x / 2 ^ j % 2 = 1)) : nb (E ++ [b]) = x % 2 ^ (j + 1) := by
  rw [nb_append, nb_one, hl, he, Nat.mod_pow_succ, hb]
  congr 2
  have := Nat.mod_two_eq_zero_or_one (x / 2 ^ j)
  rcases this with h | h <;> rw [h] <;> rfl

theorem val_take32 (L : List Nat) (k : Nat) (hk : k < L.length) : val (L.take k) + 2 ^ (32 * k) * L.getD k 0 = val (L.take (k + 1)) := by
  rw [List.take_add_one, val_append, List.getElem?_eq_getElem hk, List.getD_eq_getElem?_getD, List.getElem?_eq_getElem hk]
  have h1 : (L.take k).length = k := by simp; omega
  rw [h1, Nat.pow_mul]
  simp [val]

set_option maxHeartbeats 2000000 in
set_option maxRecDepth 100000 in
theorem bits_any (a ai at' : Option Addr) (c ci ct : Nat) (neg : Bool) (L : List Nat) (z : Int) (w : World) (HT : TI w neg a L z) :
    Calls Tryd.prog 38 #[.agg #[.int .u8 1, .bool neg, .slice a L.length c, .string ⟨#[]⟩, .int .i64 0, .slice ai 0 ci, .slice at' 0 ct]] w fun e w' => Upd [] w w' ∧ ∃ a' c' M, e = .returned (.slice a' M.length c') ∧ NormB M z.natAbs ∧ BA w' a' M ∧ Fresh w.heap.size a' ∧ M.length ≤ c' ∧ c' ≤ 9223372036854775807 := by
  obtain ⟨i0, hi, hz0, hz1, hz2⟩ := info_parts info_bool
  have hL := HT.len
  have HN : Hid _ := HT.norm
  have HM : Hid (At w a L) := HT.mem
  clear HT
  go_enter Tryd.func38, Tryd.ntmps38
  go_wp2_with fail
  have u0 := (Upd.refl [] w).alloc (.cells #[.int .u8 1, .bool neg, .slice a L.length c, .string ⟨#[]⟩, .int .i64 0, .slice ai 0 ci, .slice at' 0 ct] 26)
  have t0 := Tb.new w #[.int .u8 1, .bool neg, .slice a L.length c, .string ⟨#[]⟩, .int .i64 0, .slice ai 0 ci, .slice at' 0 ct] _ rfl
  have hsz0 : (w.alloc (.cells #[.int .u8 1, .bool neg, .slice a L.length c, .string ⟨#[]⟩, .int .i64 0, .slice ai 0 ci, .slice at' 0 ct] 26)).heap.size = w.heap.size + 1 := by simp
  obtain ⟨W0, hW0⟩ : ∃ x, x = w.alloc (.cells #[.int .u8 1, .bool neg, .slice a L.length c, .string ⟨#[]⟩, .int .i64 0, .slice ai 0 ci, .slice at' 0 ct] 26) := ⟨_, rfl⟩
  rw [← hW0] at u0 t0 hsz0 ⊢
  clear hW0
  go_loopw [3, 4] (fun v i wr => ∃ k : Nat, ∃ D : List Bool, k ≤ L.length ∧ i = .int .i64 k ∧ OL wr W0.heap.size v D ∧ D.length = 32 * k ∧ nb D = val (L.take k) ∧ Upd [] W0 wr) (fun _ i _ => L.length - (intOf i).toNat)
  case atStart => exact ⟨0, [], Nat.zero_le _, rfl, OL.nil _ _, rfl, by simp [nb, val], Upd.refl _ _⟩
  case round =>
    rename World => wo
    obtain ⟨k, D, hk, rfl, hO, hDl, hDv, hU⟩ := hrel
    have cl := (t0.mono hU (by simp)).cell 2
    have HDL : Hid _ := hDl
    have HDV : Hid _ := hDv
    clear hDl hDv
    by_cases hk2 : k < L.length
    · rcases HM.out.mono (u0.trans hU) with h | ⟨ba, oa, rfl, hlta, hca⟩
      · rw [h] at hk2; simp at hk2
      obtain ⟨x, hx⟩ : ∃ x, x = L.getD k 0 := ⟨_, rfl⟩
      have hxl : x < 4294967296 := by rw [hx]; exact HN.out.dig.getD _
      have HX : Hid _ := hx
      have hcA : ∀ W, Upd [] W0 W → W.cell? ⟨ba, oa + k, none⟩ = some (.int .u32 (x : Nat)) := fun W hu => by
        rcases HM.out.mono (u0.trans hu) with h | ⟨b', o', e, _, hc⟩
        · rw [h] at hk2; simp at hk2
        · cases e; rw [hx]; exact hc k hk2
      have HCA : Hid _ := hcA
      clear hx hcA hca
      go_wp2_with fail
      go_loopw [3, 5] (fun v i wr => ∃ j : Nat, ∃ E : List Bool, j ≤ 32 ∧ i = .int .i64 j ∧ E.length = j ∧ nb E = x % 2 ^ j ∧ OL wr W0.heap.size v (D ++ E) ∧ Upd [] W0 wr) (fun _ i _ => 32 - (intOf i).toNat)
      case atStart => exact ⟨0, [], Nat.zero_le _, rfl, rfl, by simp [nb]; omega, by rw [List.append_nil]; exact hO, hU⟩
      case round =>
        obtain ⟨j, E, hj, rfl, hEl, hEv, hOB, hUr⟩ := hrel
        have HEL : Hid _ := hEl
        have HEV : Hid _ := hEv
        have hlen : (D ++ E).length ≤ 1100 := by rw [List.length_append, hEl, HDL.out]; omega
        have hown : wr.ownsRow W0.heap.size 4 1 _ (D ++ E).length ((D ++ E).map Value.bool) := hOB
        have hsz := hUr.size
        have cl := (t0.mono hUr (by simp)).cell 2
        have cx := HCA.out _ hUr
        clear hEl hEv
        by_cases hj2 : j < 32
        · have HO : Hid _ := hOB
          clear hOB
          go_wp2_with (at_builtin; refine wpList_append_own _ rfl _ _ 47 rfl W0.heap.size 4 i0 (.bool false) 1 1 Tryd.underlying47 hi hz0 hz1 hz2 rfl (by decide) _ _ _ rfl (hown.alloc _) ⟨wr.heap.size, 0, none⟩ 1 1 [.bool (bits BinOp.and IntKind.u32 ((x : Int) / 2 ^ j) 1 == 1)] rfl rfl (cell_one_new _ _ _) (by intro u hu; simp at hu; subst hu; rfl) (by unfold maxLen; omega) (by omega) (by simp; omega) ?_; intro v' w2 hown' hgrow _)
          go_roundw
          case rel =>
            refine ⟨j + 1, E ++ [_], by omega, by go_num, by rw [List.length_append, HEL.out]; rfl, bit_step E x j _ HEL.out HEV.out (bit_at x j hxl), ?_, ?_⟩
            · rw [← List.append_assoc]; exact OL.snoc hown'
            · exact (hUr.alloc _).grown hgrow (fun k hk => Or.inl (World.ownsRow.lt HO.out k hk).1)
          case measure => simp [intOf]; omega
        · have hj3 : j = 32 := by omega
          go_wp2
          go_roundw
          case rel =>
            refine ⟨k + 1, D ++ E, by omega, by go_num, hOB, by rw [List.length_append, HEL.out, HDL.out]; omega, ?_, hUr⟩
            rw [nb_append, HDL.out, HDV.out, HEV.out, hj3, Nat.mod_eq_of_lt (by omega), HX.out]
            exact val_take32 L k hk2
          case measure => simp [intOf]; omega
    · have hk3 : k = L.length := by omega
      obtain ⟨a1, c1, rfl, hB, hF, hc1, hc2⟩ := hO.there
      go_wp2_with fail
      refine (cut_any a1 c1 D wo (by rw [HDL.out]; omega) hc1 hc2 hB).mono ?_
      rintro e w2 ⟨rfl, c2, M, rfl, nM, hM, hMl, hd1, hd2⟩
      go_wp2
      go_ret
      refine ⟨u0.trans hU, a1, c2, M, rfl, ?_, hM, hF.le (by omega), hd1, hd2⟩
      rw [HDV.out, hk3, List.take_of_length_le (Nat.le_refl _), HN.out.eq] at nM
      exact nM

end Go.Proofs.YtpeganecbjefoaaDoor
