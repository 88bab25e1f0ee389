/- What a byte is: the contracts of the small functions. -/
import Derived.Test.YtiapdapkklcliaaGreatDoorBase
namespace Go.Proofs.YtiapdapkklcliaaGreatDoor
open Go.RowKit

theorem ret_bool {a b : Bool} (h : a = b) : Ending.returned (.bool a) = .returned (.bool b) := by rw [h]
theorem ret_int {k : IntKind} {a b : Int} (h : a = b) : Ending.returned (.int k a) = .returned (.int k b) := by rw [h]
theorem u8_le (a b : UInt8) : a ≤ b ↔ (a.toNat : Int) ≤ (b.toNat : Int) := by rw [UInt8.le_iff_toNat_le]; omega
theorem u8_eq (a b : UInt8) : a = b ↔ (a.toNat : Int) = (b.toNat : Int) := by rw [← UInt8.toNat_inj]; omega
theorem u8_beq (a b : UInt8) : (a == b) = ((a.toNat : Int) == (b.toNat : Int)) := by
  rw [Bool.eq_iff_iff, beq_iff_eq, beq_iff_eq, u8_eq]

set_option maxHeartbeats 400000 in
theorem isLower_any (c : UInt8) (w : World) : Calls Tryz.prog 78 #[.int .u8 c.toNat] w fun e w' => e = .returned (.bool (Sc.isLower c)) ∧ w' = w := by
  go_enter Tryz.func78, Tryz.ntmps78
  go_wp2
  all_goals
    go_ret
    exact ⟨ret_bool (by simp [Sc.isLower, u8_le, *] <;> omega), rfl⟩

set_option maxHeartbeats 400000 in
theorem isDigit_any (c : UInt8) (w : World) : Calls Tryz.prog 40 #[.int .u8 c.toNat] w fun e w' => e = .returned (.bool (Sc.isDigit c)) ∧ w' = w := by
  go_enter Tryz.func40, Tryz.ntmps40
  go_wp2
  all_goals
    go_ret
    exact ⟨ret_bool (by simp [Sc.isDigit, u8_le, *] <;> omega), rfl⟩

set_option maxHeartbeats 400000 in
theorem isJoint_any (c : UInt8) (w : World) : Calls Tryz.prog 80 #[.int .u8 c.toNat] w fun e w' => e = .returned (.bool (Sc.isJoint c)) ∧ w' = w := by
  go_enter Tryz.func80, Tryz.ntmps80
  go_wp2
  all_goals
    go_ret
    exact ⟨ret_bool (by simp [Sc.isJoint, u8_beq, *]), rfl⟩

set_option maxHeartbeats 400000 in
theorem isBlank_any (c : UInt8) (w : World) : Calls Tryz.prog 37 #[.int .u8 c.toNat] w fun e w' => e = .returned (.bool (Sc.isBlank c)) ∧ w' = w := by
  go_enter Tryz.func37, Tryz.ntmps37
  go_wp2
  all_goals
    go_ret
    exact ⟨ret_bool (by simp [Sc.isBlank, u8_beq, *]), rfl⟩

set_option maxHeartbeats 400000 in
theorem isLetter_any (c : UInt8) (w : World) : Calls Tryz.prog 38 #[.int .u8 c.toNat] w fun e w' => e = .returned (.bool (Sc.isLetter c)) ∧ w' = w := by
  go_enter Tryz.func38, Tryz.ntmps38
  go_wp2_with (go_at_call 78; refine (isLower_any _ _).mono ?_; rintro e w' ⟨rfl, rfl⟩)
  all_goals
    go_ret
    exact ⟨ret_bool (by simp [Sc.isLetter, u8_le, *] <;> omega), rfl⟩

set_option maxHeartbeats 400000 in
theorem isName_any (c : UInt8) (w : World) : Calls Tryz.prog 79 #[.int .u8 c.toNat] w fun e w' => e = .returned (.bool (Sc.isName c)) ∧ w' = w := by
  go_enter Tryz.func79, Tryz.ntmps79
  go_wp2_with (first | (go_at_call 38; refine (isLetter_any _ _).mono ?_; rintro e w' ⟨rfl, rfl⟩) | (go_at_call 40; refine (isDigit_any _ _).mono ?_; rintro e w' ⟨rfl, rfl⟩) | (go_at_call 80; refine (isJoint_any _ _).mono ?_; rintro e w' ⟨rfl, rfl⟩))
  all_goals
    go_ret
    exact ⟨ret_bool (by simp [Sc.isName, *]), rfl⟩

theorem hexV_nat (c : UInt8) : (Sc.hexV c).toNat = if 48 ≤ c.toNat ∧ c.toNat ≤ 57 then c.toNat - 48 else if 97 ≤ c.toNat ∧ c.toNat ≤ 102 then c.toNat - 87 else if 65 ≤ c.toNat ∧ c.toNat ≤ 70 then c.toNat - 55 else 255 := by
  have := Sc.all8 (p := fun c => decide ((Sc.hexV c).toNat = if 48 ≤ c.toNat ∧ c.toNat ≤ 57 then c.toNat - 48 else if 97 ≤ c.toNat ∧ c.toNat ≤ 102 then c.toNat - 87 else if 65 ≤ c.toNat ∧ c.toNat ≤ 70 then c.toNat - 55 else 255)) (by decide +kernel) c
  simpa using this
theorem isDigit_iff (c : UInt8) : Sc.isDigit c = decide (48 ≤ c.toNat ∧ c.toNat ≤ 57) := by
  rw [Bool.eq_iff_iff]; simp [Sc.isDigit, UInt8.le_iff_toNat_le]

set_option maxHeartbeats 400000 in
theorem hexValue_any (c : UInt8) (w : World) : Calls Tryz.prog 127 #[.int .u8 c.toNat] w fun e w' => e = .returned (.int .u8 (Sc.hexV c).toNat) ∧ w' = w := by
  have hc : c.toNat < 256 := c.toNat_lt
  have HX : Hid ((Sc.hexV c).toNat = _) := hexV_nat c
  have HD : Hid (Sc.isDigit c = _) := isDigit_iff c
  go_enter Tryz.func127, Tryz.ntmps127
  go_wp2_with (go_at_call 40; refine (isDigit_any _ _).mono ?_; rintro e w' ⟨rfl, rfl⟩)
  all_goals
    go_ret
    have hd := HD.out
    simp only [*] at hd
    first | have hd := of_decide_eq_true hd.symm | have hd := of_decide_eq_false hd.symm
    exact ⟨ret_int (by rw [HX.out]; repeat' split
                       all_goals omega), rfl⟩

/-- A flag in a block of its own. -/
def Flag (w : World) (b : Nat) (q : Bool) : Prop := Blk w b #[.bool q] 4

theorem inC_b (q : Bool) (c : UInt8) : Sc.inC q c = if ((c.toNat : Int) == 37) then true else if ((c.toNat : Int) == 10) then false else q := by
  simp [Sc.inC, u8_eq]
theorem Flag.set {w : World} {b : Nat} {q : Bool} (h : Flag w b q) (r : Bool) : Flag (w.setCell ⟨b, 0, none⟩ (.bool r)) b r := Blk.set h 0 _

set_option maxHeartbeats 400000 in
theorem gap1_any (c : UInt8) (q : Bool) (b : Nat) (w : World) (h : Flag w b q) :
    Calls Tryz.prog 36 #[.int .u8 c.toNat, .pointer (some ⟨b, 0, none⟩)] w fun e w' => e = .returned (.bool (Sc.inC q c || Sc.isBlank c)) ∧ Flag w' b (Sc.inC q c) ∧ Upd [b] w w' := by
  have hb : w.cell? ⟨b, 0, none⟩ = some (.bool q) := Blk.cell h 0
  have hf : w.frozen? ⟨b, 0, none⟩ = false := Blk.free h 0
  have H : Hid (Flag w b q) := h
  clear h
  rw [inC_b]
  cases h1 : ((c.toNat : Int) == 37) with
  | true =>
    go_enter Tryz.func36, Tryz.ntmps36
    go_wp2
    go_ret
    exact ⟨rfl, H.out.set _, (Upd.refl _ _).setCell (Or.inr (by simp)) _⟩
  | false =>
    cases h2 : ((c.toNat : Int) == 10) with
    | true =>
      go_enter Tryz.func36, Tryz.ntmps36
      go_wp2_with (go_at_call 37; refine (isBlank_any _ _).mono ?_; rintro e w' ⟨rfl, rfl⟩)
      go_ret
      exact ⟨rfl, H.out.set _, (Upd.refl _ _).setCell (Or.inr (by simp)) _⟩
    | false =>
      cases q with
      | true =>
        go_enter Tryz.func36, Tryz.ntmps36
        go_wp2
        go_ret
        exact ⟨rfl, H.out, Upd.refl _ _⟩
      | false =>
        go_enter Tryz.func36, Tryz.ntmps36
        go_wp2_with (go_at_call 37; refine (isBlank_any _ _).mono ?_; rintro e w' ⟨rfl, rfl⟩)
        go_ret
        exact ⟨rfl, H.out, Upd.refl _ _⟩

end Go.Proofs.YtiapdapkklcliaaGreatDoor
