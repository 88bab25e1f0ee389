/- sum: two amounts with signs. -/
import Derived.Test.YtnpocmhaoaigfaaGreatDoorSgn
import Derived.Test.YtnpocmhaoaigfaaGreatDoorSubL
import Derived.Test.YtnpocmhaoaigfaaGreatDoorCmpL
namespace Go.Proofs.YtnpocmhaoaigfaaGreatDoor
open Go.RowKit

/-- An amount with a sign. -/
def sg (neg : Bool) (n : Nat) : Int := if neg then -(n : Int) else n
theorem sg_abs (neg : Bool) (n : Nat) : (sg neg n).natAbs = n := by cases neg <;> simp [sg]
theorem sg_neg (neg : Bool) (n : Nat) : decide (sg neg n < 0) = (neg && decide (0 < n)) := by
  cases neg <;> simp [sg]
theorem sg_of (z : Int) : sg (decide (z < 0)) z.natAbs = z := by
  by_cases h : z < 0
  · simp [sg, h]; omega
  · simp [sg, h]; omega

theorem cmp3_ge (x y : Nat) (h : ¬ x < y) : 0 ≤ cmp3 x y := by
  unfold cmp3
  rw [if_neg h]
  split <;> simp

/-- A right integer: sign, limbs, in memory. -/
structure TI (w : World) (neg : Bool) (a : Option Addr) (M : List Nat) (z : Int) : Prop where
  norm : Norm M z.natAbs
  mem : At w a M
  len : M.length ≤ 32
  sgn : neg = decide (z < 0)

theorem TI.mono {w w' : World} {neg : Bool} {a : Option Addr} {M : List Nat} {z : Int} (h : TI w neg a M z) (hu : Upd [] w w') : TI w' neg a M z := ⟨h.norm, h.mem.mono hu, h.len, h.sgn⟩
theorem TI.sg {w : World} {neg : Bool} {a : Option Addr} {M : List Nat} {z : Int} (h : TI w neg a M z) : Go.Proofs.YtnpocmhaoaigfaaGreatDoor.sg neg z.natAbs = z := by rw [h.sgn]; exact sg_of z
theorem TI.small {w : World} {neg : Bool} {a : Option Addr} {M : List Nat} {z : Int} (h : TI w neg a M z) : z.natAbs < 4294967296 ^ 32 := (h.norm.len_le 32).1 h.len

/-- What a call that may lack room answers. -/
def Res (w' : World) (e : Ending) (z : Int) : Prop :=
  (z.natAbs < 4294967296 ^ 32 ∧ ∃ neg a c M, e = .returned (.tuple #[.agg #[.int .u8 1, .bool neg, .slice a M.length c, .string ⟨#[]⟩, .int .i64 0, .slice none 0 0, .slice none 0 0], .bool true]) ∧ TI w' neg a M z) ∨
  (¬ z.natAbs < 4294967296 ^ 32 ∧ e = .returned (.tuple #[(.agg #[.int .u8 0, .bool false, .slice none 0 0, .string ⟨#[]⟩, .int .i64 0, .slice none 0 0, .slice none 0 0]), .bool false]))

/-- fitting: the integer, if it has room. -/
theorem fitting_any (a : Option Addr) (c n : Nat) (neg : Bool) (L : List Nat) (z : Int) (w : World) (hl : L.length ≤ 100000) (nL : Norm L n) (HL : At w a L) (hz : sg neg n = z) :
    Calls Tryz.prog 129 #[.slice a L.length c, .bool neg] w fun e w' => Res w' e z ∧ Upd [] w w' := by
  have hab : z.natAbs = n := by rw [← hz]; exact sg_abs neg n
  by_cases h : L.length ≤ 32
  · refine (fitting_yes a L.length c neg w h).mono ?_
    rintro e w' ⟨rfl, hU⟩
    refine ⟨Or.inl ⟨?_, _, a, c, L, rfl, ?_⟩, hU⟩
    · rw [hab]; exact (nL.len_le 32).1 h
    · refine ⟨by rw [hab]; exact nL, HL.mono hU, h, ?_⟩
      rw [← hz, sg_neg]
      congr 1
      have := nL.nil_iff
      by_cases h0 : n = 0
      · rw [this.2 h0]; simp [h0]
      · have h1 : L ≠ [] := fun e => h0 (this.1 e)
        have h2 : 0 < L.length := by cases L with | nil => exact absurd rfl h1 | cons x t => simp
        simp [h2]; omega
  · refine (fitting_no a L.length c neg w (by omega) hl).mono ?_
    rintro e w' ⟨rfl, hU⟩
    refine ⟨Or.inr ⟨?_, rfl⟩, hU⟩
    rw [hab]; intro h2; exact h ((nL.len_le 32).2 h2)

set_option maxHeartbeats 1000000 in
set_option maxRecDepth 100000 in
theorem sum_same (a b : Option Addr) (ca cb x y : Nat) (neg : Bool) (A B : List Nat) (w : World) (hA : A.length ≤ 900) (hB : B.length ≤ 900) (HA : At w a A) (HB : At w b B) (nA : Norm A x) (nB : Norm B y) (z : Int) (hz : sg neg (x + y) = z) :
    Calls Tryz.prog 128 #[.slice a A.length ca, .bool neg, .slice b B.length cb, .bool neg] w fun e w' => Res w' e z ∧ Upd [] w w' := by
  have hU0 := (Upd.refl [] w).alloc (.cells #[.int .u8 0, .bool false, .slice none 0 0, .string ⟨#[]⟩, .int .i64 0, .slice none 0 0, .slice none 0 0] 26)
  have hT0 := Tb.new w #[.int .u8 0, .bool false, .slice none 0 0, .string ⟨#[]⟩, .int .i64 0, .slice none 0 0, .slice none 0 0] _ rfl
  have HUU : Hid _ := hU0
  have HTT : Hid _ := hT0
  clear hU0 hT0
  have hzz : ∀ (_ _ : Unit), sg neg (x + y) = z := fun _ _ => hz
  clear hz
  cases neg
  all_goals
    go_enter Tryz.func128, Tryz.ntmps128
    go_wp2_with fail
    refine (addLimbs_any a b ca cb x y A B _ (by omega) (by omega) (HA.mono HUU.out) (HB.mono HUU.out) nA nB).mono ?_
    rintro e w1 ⟨hU1, a1, c1, M1, rfl, nM1, hA1, hl1, hc11, hc12⟩
    go_wp2_with fail
    refine (fitting_any a1 c1 _ _ M1 _ w1 (by omega) nM1 hA1 (hzz () ())).mono ?_
    rintro e w2 ⟨hR, hU2⟩
    have hT2 := (Tb.mono HTT.out hU1 (by simp)).mono hU2 (by simp)
    have hU02 := (HUU.out.trans hU1).trans hU2
    rcases hR with ⟨hs, neg', a2, c2, M2, rfl, hTI⟩ | ⟨hs, rfl⟩
    · have HTI : Hid _ := hTI
      have HS : Hid _ := hs
      clear hTI hs hU1 hU2
      go_wp2_with (refine store_V _ rfl _ _ rfl _ _ _ _ _ _ _ _ _ _ _ _ _ _ _ rfl rfl hT2 rfl ?_; intro w3 hT3 hU3)
      exact ret_Tb Tryz.results128 rfl _ _ _ rfl hT3 rfl rfl ⟨Or.inl ⟨HS.out, neg', a2, c2, M2, rfl, ⟨HTI.out.norm, HTI.out.mem.keep hT2 hU3, HTI.out.len, HTI.out.sgn⟩⟩, hU02.then hU3 (by simp)⟩
    · have HS : Hid _ := hs
      clear hs hU1 hU2
      go_wp2_with (refine store_V _ rfl _ _ rfl _ _ _ _ _ _ _ _ _ _ _ _ _ _ _ rfl rfl hT2 rfl ?_; intro w3 hT3 hU3)
      exact ret_Tb Tryz.results128 rfl _ _ _ rfl hT3 rfl rfl ⟨Or.inr ⟨HS.out, rfl⟩, hU02.then hU3 (by simp)⟩

set_option maxHeartbeats 1000000 in
set_option maxRecDepth 100000 in
theorem sum_lt (a b : Option Addr) (ca cb x y : Nat) (neg : Bool) (A B : List Nat) (w : World) (hA : A.length ≤ 900) (hB : B.length ≤ 900) (HA : At w a A) (HB : At w b B) (nA : Norm A x) (nB : Norm B y) (hlt : x < y) (z : Int) (hz : sg (!neg) (y - x) = z) :
    Calls Tryz.prog 128 #[.slice a A.length ca, .bool neg, .slice b B.length cb, .bool (!neg)] w fun e w' => Res w' e z ∧ Upd [] w w' := by
  have hU0 := (Upd.refl [] w).alloc (.cells #[.int .u8 0, .bool false, .slice none 0 0, .string ⟨#[]⟩, .int .i64 0, .slice none 0 0, .slice none 0 0] 26)
  have hT0 := Tb.new w #[.int .u8 0, .bool false, .slice none 0 0, .string ⟨#[]⟩, .int .i64 0, .slice none 0 0, .slice none 0 0] _ rfl
  have HUU : Hid _ := hU0
  have HTT : Hid _ := hT0
  clear hU0 hT0
  have hzz : ∀ (_ _ : Unit), sg (!neg) (y - x) = z := fun _ _ => hz
  clear hz
  cases neg
  all_goals
    go_enter Tryz.func128, Tryz.ntmps128
    go_wp2_with fail
    refine (compareLimbs_any a b ca cb x y A B _ (by omega) (by omega) (HA.mono HUU.out) (HB.mono HUU.out) nA nB).mono ?_
    rintro e w9 ⟨rfl, hU9⟩
    rw [cmp3_lt hlt]
    go_wp2_with fail
    refine (subLimbs_any b a cb ca y x B A w9 (by omega) ((HB.mono HUU.out).mono hU9) ((HA.mono HUU.out).mono hU9) nB nA (by omega)).mono ?_
    rintro e w1 ⟨hU1', a1, c1, M1, rfl, nM1, hA1, hl1, hc11, hc12, hf1⟩
    have hU1 := hU9.trans hU1'
    clear hU9 hU1'
    go_wp2_with fail
    refine (fitting_any a1 c1 _ _ M1 _ w1 (by omega) nM1 hA1 (hzz () ())).mono ?_
    rintro e w2 ⟨hR, hU2⟩
    have hT2 := (Tb.mono HTT.out hU1 (by simp)).mono hU2 (by simp)
    have hU02 := (HUU.out.trans hU1).trans hU2
    rcases hR with ⟨hs, neg', a2, c2, M2, rfl, hTI⟩ | ⟨hs, rfl⟩
    · have HTI : Hid _ := hTI
      have HS : Hid _ := hs
      clear hTI hs hU1 hU2
      go_wp2_with (refine store_V _ rfl _ _ rfl _ _ _ _ _ _ _ _ _ _ _ _ _ _ _ rfl rfl hT2 rfl ?_; intro w3 hT3 hU3)
      exact ret_Tb Tryz.results128 rfl _ _ _ rfl hT3 rfl rfl ⟨Or.inl ⟨HS.out, neg', a2, c2, M2, rfl, ⟨HTI.out.norm, HTI.out.mem.keep hT2 hU3, HTI.out.len, HTI.out.sgn⟩⟩, hU02.then hU3 (by simp)⟩
    · have HS : Hid _ := hs
      clear hs hU1 hU2
      go_wp2_with (refine store_V _ rfl _ _ rfl _ _ _ _ _ _ _ _ _ _ _ _ _ _ _ rfl rfl hT2 rfl ?_; intro w3 hT3 hU3)
      exact ret_Tb Tryz.results128 rfl _ _ _ rfl hT3 rfl rfl ⟨Or.inr ⟨HS.out, rfl⟩, hU02.then hU3 (by simp)⟩

set_option maxHeartbeats 1000000 in
set_option maxRecDepth 100000 in
theorem sum_ge (a b : Option Addr) (ca cb x y : Nat) (neg : Bool) (A B : List Nat) (w : World) (hA : A.length ≤ 900) (hB : B.length ≤ 900) (HA : At w a A) (HB : At w b B) (nA : Norm A x) (nB : Norm B y) (hlt : ¬ x < y) (z : Int) (hz : sg neg (x - y) = z) :
    Calls Tryz.prog 128 #[.slice a A.length ca, .bool neg, .slice b B.length cb, .bool (!neg)] w fun e w' => Res w' e z ∧ Upd [] w w' := by
  have hU0 := (Upd.refl [] w).alloc (.cells #[.int .u8 0, .bool false, .slice none 0 0, .string ⟨#[]⟩, .int .i64 0, .slice none 0 0, .slice none 0 0] 26)
  have hT0 := Tb.new w #[.int .u8 0, .bool false, .slice none 0 0, .string ⟨#[]⟩, .int .i64 0, .slice none 0 0, .slice none 0 0] _ rfl
  have HUU : Hid _ := hU0
  have HTT : Hid _ := hT0
  clear hU0 hT0
  have hzz : ∀ (_ _ : Unit), sg neg (x - y) = z := fun _ _ => hz
  clear hz
  cases neg
  all_goals
    go_enter Tryz.func128, Tryz.ntmps128
    go_wp2_with fail
    refine (compareLimbs_any a b ca cb x y A B _ (by omega) (by omega) (HA.mono HUU.out) (HB.mono HUU.out) nA nB).mono ?_
    rintro e w9 ⟨rfl, hU9⟩
    obtain ⟨q, hq⟩ : ∃ q, q = cmp3 x y := ⟨_, rfl⟩
    have hq0 : (0 : Int) ≤ q := by rw [hq]; exact cmp3_ge _ _ hlt
    rw [← hq]
    clear hq
    go_wp2_with fail
    refine (subLimbs_any a b ca cb x y A B w9 (by omega) ((HA.mono HUU.out).mono hU9) ((HB.mono HUU.out).mono hU9) nA nB (by omega)).mono ?_
    rintro e w1 ⟨hU1', a1, c1, M1, rfl, nM1, hA1, hl1, hc11, hc12, hf1⟩
    have hU1 := hU9.trans hU1'
    clear hU9 hU1'
    go_wp2_with fail
    refine (fitting_any a1 c1 _ _ M1 _ w1 (by omega) nM1 hA1 (hzz () ())).mono ?_
    rintro e w2 ⟨hR, hU2⟩
    have hT2 := (Tb.mono HTT.out hU1 (by simp)).mono hU2 (by simp)
    have hU02 := (HUU.out.trans hU1).trans hU2
    rcases hR with ⟨hs, neg', a2, c2, M2, rfl, hTI⟩ | ⟨hs, rfl⟩
    · have HTI : Hid _ := hTI
      have HS : Hid _ := hs
      clear hTI hs hU1 hU2
      go_wp2_with (refine store_V _ rfl _ _ rfl _ _ _ _ _ _ _ _ _ _ _ _ _ _ _ rfl rfl hT2 rfl ?_; intro w3 hT3 hU3)
      exact ret_Tb Tryz.results128 rfl _ _ _ rfl hT3 rfl rfl ⟨Or.inl ⟨HS.out, neg', a2, c2, M2, rfl, ⟨HTI.out.norm, HTI.out.mem.keep hT2 hU3, HTI.out.len, HTI.out.sgn⟩⟩, hU02.then hU3 (by simp)⟩
    · have HS : Hid _ := hs
      clear hs hU1 hU2
      go_wp2_with (refine store_V _ rfl _ _ rfl _ _ _ _ _ _ _ _ _ _ _ _ _ _ _ rfl rfl hT2 rfl ?_; intro w3 hT3 hU3)
      exact ret_Tb Tryz.results128 rfl _ _ _ rfl hT3 rfl rfl ⟨Or.inr ⟨HS.out, rfl⟩, hU02.then hU3 (by simp)⟩

/-- sum: the sum of two amounts with signs. -/
theorem sum_any (a b : Option Addr) (ca cb x y : Nat) (na nb : Bool) (A B : List Nat) (w : World) (hA : A.length ≤ 900) (hB : B.length ≤ 900) (HA : At w a A) (HB : At w b B) (nA : Norm A x) (nB : Norm B y) :
    Calls Tryz.prog 128 #[.slice a A.length ca, .bool na, .slice b B.length cb, .bool nb] w fun e w' => Res w' e (sg na x + sg nb y) ∧ Upd [] w w' := by
  by_cases h : na = nb
  · subst h
    exact sum_same a b ca cb x y na A B w hA hB HA HB nA nB _ (by cases na <;> simp [sg] <;> omega)
  · have e : nb = !na := by cases na <;> cases nb <;> simp_all
    subst e
    by_cases hlt : x < y
    · exact sum_lt a b ca cb x y na A B w hA hB HA HB nA nB hlt _ (by cases na <;> simp [sg] <;> omega)
    · exact sum_ge a b ca cb x y na A B w hA hB HA HB nA nB hlt _ (by cases na <;> simp [sg] <;> omega)

end Go.Proofs.YtnpocmhaoaigfaaGreatDoor
