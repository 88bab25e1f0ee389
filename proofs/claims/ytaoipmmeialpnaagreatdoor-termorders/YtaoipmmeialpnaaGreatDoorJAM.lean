/- number and text of the reference of term. -/
import Derived.Test.YtaoipmmeialpnaaGreatDoorOrdD
import Derived.Test.YtaoipmmeialpnaaGreatDoorSizB

namespace Go.Proofs.YtaoipmmeialpnaaGreatDoor
open Go.RowKit

set_option maxHeartbeats 400000 in
theorem num2_any (x y : Int) (w : World) :
    Calls Tryz.prog 122 #[.int .i64 x, .int .i64 y] w fun e w' => e = .returned (.int .i64 (cmpZ x y)) ∧ w' = w := by
  rcases Int.lt_trichotomy x y with h | h | h
  · rw [cmpZ_lt h]
    go_enter Tryz.func122, Tryz.ntmps122
    go_wp2
    go_ret
    exact ⟨rfl, rfl⟩
  · subst h
    rw [cmpZ_self]
    have hd : decide (x < x) = false := by simp
    go_enter Tryz.func122, Tryz.ntmps122
    go_wp2
    go_ret
    exact ⟨rfl, rfl⟩
  · rw [cmpZ_gt h]
    have hd : decide (x < y) = false := by simp; omega
    go_enter Tryz.func122, Tryz.ntmps122
    go_wp2
    go_ret
    exact ⟨rfl, rfl⟩

theorem lex_less (a b : List UInt8) : Op.bytesLess a b = decide (lexZ (a.map fun c => (c.toNat : Int)) (b.map fun c => (c.toNat : Int)) = -1) := by
  induction a generalizing b with
  | nil => cases b <;> simp [Op.bytesLess, lexZ]
  | cons x r ih =>
    cases b with
    | nil => simp [Op.bytesLess, lexZ]
    | cons y s =>
      simp only [Op.bytesLess, List.map_cons, lexZ]
      by_cases h : x = y
      · subst h
        rw [if_pos rfl, ← ih]
        simp [UInt8.lt_irrefl]
      · have h2 : ¬ (x.toNat : Int) = (y.toNat : Int) := fun e => h (UInt8.toNat_inj.1 (by omega))
        rw [if_neg h2]
        by_cases hl : x < y
        · have := UInt8.lt_iff_toNat_lt.1 hl
          rw [cmpZ_lt (by omega)]
          simp [hl]
        · have h3 : ¬ x.toNat < y.toNat := fun e => hl (UInt8.lt_iff_toNat_lt.2 e)
          rw [cmpZ_gt (by omega)]
          simp [hl, h]
theorem lexZ_sign (a b : List Int) : lexZ a b = -1 ∨ lexZ a b = 0 ∨ lexZ a b = 1 := by
  induction a generalizing b with
  | nil => cases b <;> simp [lexZ]
  | cons x r ih =>
    cases b with
    | nil => simp [lexZ]
    | cons y s =>
      simp only [lexZ]
      split
      · exact ih s
      · unfold cmpZ; split
        · exact Or.inl rfl
        · split
          · exact Or.inr (Or.inr rfl)
          · exact Or.inr (Or.inl rfl)
theorem lexZ_flip (a b : List Int) : lexZ b a = - lexZ a b := by
  induction a generalizing b with
  | nil => cases b <;> simp [lexZ]
  | cons x r ih =>
    cases b with
    | nil => simp [lexZ]
    | cons y s =>
      simp only [lexZ]
      by_cases h : x = y
      · subst h; simp [ih]
      · rw [if_neg (fun e => h e.symm), if_neg h]
        unfold cmpZ
        by_cases hl : x < y
        · rw [if_neg (by omega), if_pos hl, if_pos hl]; rfl
        · rw [if_pos (by omega), if_neg hl, if_pos (by omega)]

set_option maxHeartbeats 400000 in
theorem text2_any (a b : ByteArray) (w : World) :
    Calls Tryz.prog 124 #[.string a, .string b] w fun e w' => e = .returned (.int .i64 (lexZ (bz a) (bz b))) ∧ w' = w := by
  have h1 : Op.bytesLess a.toList b.toList = decide (lexZ (bz a) (bz b) = -1) := by rw [lex_less, Lib.toList_data, Lib.toList_data]; rfl
  have h2 : Op.bytesLess b.toList a.toList = decide (lexZ (bz a) (bz b) = 1) := by
    rw [lex_less, Lib.toList_data, Lib.toList_data]
    show decide (lexZ (bz b) (bz a) = -1) = _
    rw [lexZ_flip]
    congr 1
    apply propext
    constructor <;> intro h <;> omega
  have h3 : (a.toList == b.toList) = decide (lexZ (bz a) (bz b) = 0) := by
    rw [Bool.eq_iff_iff, beq_iff_eq, decide_eq_true_eq]
    constructor
    · intro h
      have : a = b := ByteArray.ext (Array.toList_inj.1 (by rw [Lib.toList_data, Lib.toList_data] at h; exact h))
      rw [this]; exact lexZ_self _
    · intro h
      rw [bz_inj (lexZ_zero h)]
  obtain ⟨z, hz⟩ : ∃ z, lexZ (bz a) (bz b) = z := ⟨_, rfl⟩
  have hs := lexZ_sign (bz a) (bz b)
  rw [hz] at h1 h2 h3 hs
  rw [hz]
  clear hz
  rcases hs with rfl | rfl | rfl
  · have h1 : Op.bytesLess a.toList b.toList = true := by rw [h1]; decide
    go_enter Tryz.func124, Tryz.ntmps124
    go_wp2
    go_ret
    exact ⟨rfl, rfl⟩
  · have h1 : Op.bytesLess a.toList b.toList = false := by rw [h1]; decide
    have h2 : Op.bytesLess b.toList a.toList = false := by rw [h2]; decide
    have h3 : (a.toList == b.toList) = true := by rw [h3]; decide
    go_enter Tryz.func124, Tryz.ntmps124
    go_wp2
    go_ret
    exact ⟨rfl, rfl⟩
  · have h1 : Op.bytesLess a.toList b.toList = false := by rw [h1]; decide
    have h2 : Op.bytesLess b.toList a.toList = true := by rw [h2]; decide
    have h3 : (a.toList == b.toList) = false := by rw [h3]; decide
    go_enter Tryz.func124, Tryz.ntmps124
    go_wp2
    go_ret
    exact ⟨rfl, rfl⟩

end Go.Proofs.YtaoipmmeialpnaaGreatDoor

/- What the laws' walks share. -/
namespace Go.Proofs.YtaoipmmeialpnaaGreatDoor
open Go.RowKit

/-- Right, of whatever term. -/
theorem Right_upd (k num : Int) (neg : Bool) (L : List Nat) (s : ByteArray) (a ai at' : Option Addr) (c ni ci nt ct : Nat) (W : World) (b : Bool) (hn2 : L.length ≤ 9223372036854775807) (HL : At W a L) (hni : ni ≤ 9223372036854775807) (hnt : nt ≤ 9223372036854775807) (hb : okT k neg L s num ni nt = b) :
    Calls Tryz.prog 75 #[.agg #[.int .u8 k, .bool neg, .slice a L.length c, .string s, .int .i64 num, .slice ai ni ci, .slice at' nt ct]] W fun e w' => e = .returned (.bool b) ∧ Upd [] W w' := by
  refine (Right_any k num neg L s a ai at' c ni ci nt ct W hn2 HL hni hnt).mono ?_
  rintro e w' ⟨rfl, rfl⟩
  exact ⟨by rw [hb], (Upd.refl [] W).alloc _⟩

theorem TI.rightU {W : World} {neg : Bool} {a : Option Addr} {L : List Nat} {z : Int} (h : TI W neg a L z) (ai at' : Option Addr) (c ci ct : Nat) :
    Calls Tryz.prog 75 #[.agg #[.int .u8 1, .bool neg, .slice a L.length c, .string ⟨#[]⟩, .int .i64 0, .slice ai 0 ci, .slice at' 0 ct]] W fun e w' => e = .returned (.bool true) ∧ Upd [] W w' :=
  Right_upd 1 0 neg L ⟨#[]⟩ a ai at' c 0 ci 0 ct W true (by have := h.len; omega) h.mem (by omega) (by omega) h.ok

/-- An answer of which it is not asked yet whether there was room. -/
theorem Res.uni {w' : World} {e : Ending} {z : Int} (h : Res w' e z) :
    ∃ k neg a c M b, e = .returned (.tuple #[.agg #[.int .u8 k, .bool neg, .slice a M.length c, .string ⟨#[]⟩, .int .i64 0, .slice none 0 0, .slice none 0 0], .bool b]) ∧ ((b = true ∧ k = 1 ∧ z.natAbs < 4294967296 ^ 32 ∧ TI w' neg a M z) ∨ (b = false ∧ ¬ z.natAbs < 4294967296 ^ 32)) := by
  rcases h with ⟨h1, neg, a, c, M, rfl, h2⟩ | ⟨h1, rfl⟩
  · exact ⟨1, neg, a, c, M, true, rfl, Or.inl ⟨rfl, rfl, h1, h2⟩⟩
  · exact ⟨0, false, none, 0, [], false, rfl, Or.inr ⟨rfl, h1⟩⟩

end Go.Proofs.YtaoipmmeialpnaaGreatDoor
