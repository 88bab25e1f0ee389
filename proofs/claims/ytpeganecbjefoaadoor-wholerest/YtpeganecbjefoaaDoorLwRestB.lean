/- WholeRest: whatever two terms it is given (right ones or not, the second 0 or not), the call returns true and leaves its arguments as they were: the card of the given row, tied to the program's text.
   Conditions: the row's own alone (the listed package variables stand as the text lays them). Here: an argument that is not right, or a divisor 0; the walk over the others lies in LwRest. -/
import Derived.Test.YtpeganecbjefoaaDoorLwRest
import Derived.Test.YtpeganecbjefoaaDoorFrRest
namespace Go.Proofs.YtpeganecbjefoaaDoor
open Go.RowKit

set_option maxHeartbeats 8000000 in
set_option maxRecDepth 100000 in
theorem WholeRest_bad0 (k0 num0 : Int) (neg0 : Bool) (a0 ai0 at0 : Option Addr) (L0 : List Nat) (c0 ni0 ci0 nt0 ct0 : Nat) (s0 : ByteArray) (k1 num1 : Int) (neg1 : Bool) (a1 ai1 at1 : Option Addr) (L1 : List Nat) (c1 ni1 ci1 nt1 ct1 : Nat) (s1 : ByteArray) (W : World) (hA0 : At W a0 L0) (_hD0 : Dig L0) (hl0 : L0.length ≤ 9223372036854775807) (hi0 : ni0 ≤ 9223372036854775807) (ht0 : nt0 ≤ 9223372036854775807) (_hA1 : At W a1 L1) (_hD1 : Dig L1) (_hl1 : L1.length ≤ 9223372036854775807) (_hi1 : ni1 ≤ 9223372036854775807) (_ht1 : nt1 ≤ 9223372036854775807)  (hbad : okT k0 neg0 L0 s0 num0 ni0 nt0 = false) :
    Calls Tryd.prog 6 #[.agg #[.int .u8 k0, .bool neg0, .slice a0 L0.length c0, .string s0, .int .i64 num0, .slice ai0 ni0 ci0, .slice at0 nt0 ct0], .agg #[.int .u8 k1, .bool neg1, .slice a1 L1.length c1, .string s1, .int .i64 num1, .slice ai1 ni1 ci1, .slice at1 nt1 ct1]] W fun e w' => e = .returned (.bool true) ∧ Upd [] W w' := by
  have R0 : Hid (∀ V, Upd [] W V → _) := fun V hu => Right_upd k0 num0 neg0 L0 s0 a0 ai0 at0 c0 ni0 ci0 nt0 ct0 V false hl0 (hA0.mono hu) hi0 ht0 hbad
  have D : Hid (∀ V, Upd [] W V → _) := fun V hu => Div_badA k0 num0 k1 num1 neg0 neg1 L0 L1 s0 s1 a0 ai0 at0 a1 ai1 at1 c0 ni0 ci0 nt0 ct0 c1 ni1 ci1 nt1 ct1 V hl0 (hA0.mono hu) hi0 ht0 hbad
  clear hbad hA0 _hD0 _hA1 _hD1 
  go_enter Tryd.func6, Tryd.ntmps6
  go_wp2_with fail
  refine (awake_any _).mono ?_
  rintro e w1 ⟨rfl, hw1⟩
  have V1 := (((Upd.refl [] W).alloc _).alloc _).trans hw1
  have ta1 := Tb.mono ((Tb.new W #[.int .u8 k0, .bool neg0, .slice a0 L0.length c0, .string s0, .int .i64 num0, .slice ai0 ni0 ci0, .slice at0 nt0 ct0] _ rfl).old _) hw1 (by simp)
  have tb1 := Tb.mono (Tb.new (W.alloc _) #[.int .u8 k1, .bool neg1, .slice a1 L1.length c1, .string s1, .int .i64 num1, .slice ai1 ni1 ci1, .slice at1 nt1 ct1] (W.heap.size + 1) (by simp)) hw1 (by simp)
  have U1 : Hid _ := V1
  clear V1 hw1
  go_wp2_with (first | (refine load_G _ _ rfl _ _ rfl ta1 rfl rfl ?_) | (refine load_G _ _ rfl _ _ rfl tb1 rfl rfl ?_))
  refine (R0.out _ (Hid.out U1)).mono ?_
  rintro e w2 ⟨rfl, hw2⟩
  have taw2 := Tb.mono ta1 hw2 (by simp)
  have tbw2 := Tb.mono tb1 hw2 (by simp)
  have Uw2 : Hid _ := Upd.trans (Hid.out U1) hw2
  clear hw2 ta1 tb1 U1
  go_wp2_with (first | (refine load_G _ _ rfl _ _ rfl taw2 rfl rfl ?_) | (refine load_G _ _ rfl _ _ rfl tbw2 rfl rfl ?_))
  refine (D.out _ (Hid.out Uw2)).mono ?_
  rintro e w3 ⟨rfl, hw3⟩
  have taw3 := Tb.mono taw2 hw3 (by simp)
  have tbw3 := Tb.mono tbw2 hw3 (by simp)
  have Uw3 : Hid _ := Upd.trans (Hid.out Uw2) hw3
  clear hw3 taw2 tbw2 Uw2
  go_wp2
  go_ret
  exact ⟨rfl, by repeat (first | exact Hid.out Uw3 | refine Upd.alloc ?_ _)⟩

set_option maxHeartbeats 8000000 in
set_option maxRecDepth 100000 in
theorem WholeRest_bad1 (k0 num0 : Int) (neg0 : Bool) (a0 ai0 at0 : Option Addr) (L0 : List Nat) (c0 ni0 ci0 nt0 ct0 : Nat) (s0 : ByteArray) (k1 num1 : Int) (neg1 : Bool) (a1 ai1 at1 : Option Addr) (L1 : List Nat) (c1 ni1 ci1 nt1 ct1 : Nat) (s1 : ByteArray) (W : World) (hA0 : At W a0 L0) (_hD0 : Dig L0) (hl0 : L0.length ≤ 9223372036854775807) (hi0 : ni0 ≤ 9223372036854775807) (ht0 : nt0 ≤ 9223372036854775807) (hA1 : At W a1 L1) (_hD1 : Dig L1) (hl1 : L1.length ≤ 9223372036854775807) (hi1 : ni1 ≤ 9223372036854775807) (ht1 : nt1 ≤ 9223372036854775807) (hok0 : okT k0 neg0 L0 s0 num0 ni0 nt0 = true) (hbad : okT k1 neg1 L1 s1 num1 ni1 nt1 = false) :
    Calls Tryd.prog 6 #[.agg #[.int .u8 k0, .bool neg0, .slice a0 L0.length c0, .string s0, .int .i64 num0, .slice ai0 ni0 ci0, .slice at0 nt0 ct0], .agg #[.int .u8 k1, .bool neg1, .slice a1 L1.length c1, .string s1, .int .i64 num1, .slice ai1 ni1 ci1, .slice at1 nt1 ct1]] W fun e w' => e = .returned (.bool true) ∧ Upd [] W w' := by
  have R0 : Hid (∀ V, Upd [] W V → _) := fun V hu => Right_upd k0 num0 neg0 L0 s0 a0 ai0 at0 c0 ni0 ci0 nt0 ct0 V true hl0 (hA0.mono hu) hi0 ht0 hok0
  have R1 : Hid (∀ V, Upd [] W V → _) := fun V hu => Right_upd k1 num1 neg1 L1 s1 a1 ai1 at1 c1 ni1 ci1 nt1 ct1 V false hl1 (hA1.mono hu) hi1 ht1 hbad
  have D : Hid (∀ V, Upd [] W V → _) := fun V hu => Div_badB k0 num0 k1 num1 neg0 neg1 L0 L1 s0 s1 a0 ai0 at0 a1 ai1 at1 c0 ni0 ci0 nt0 ct0 c1 ni1 ci1 nt1 ct1 V hl0 (hA0.mono hu) hi0 ht0 hok0 hl1 (hA1.mono hu) hi1 ht1 hbad
  clear hbad hA0 _hD0 hA1 _hD1 hok0
  go_enter Tryd.func6, Tryd.ntmps6
  go_wp2_with fail
  refine (awake_any _).mono ?_
  rintro e w1 ⟨rfl, hw1⟩
  have V1 := (((Upd.refl [] W).alloc _).alloc _).trans hw1
  have ta1 := Tb.mono ((Tb.new W #[.int .u8 k0, .bool neg0, .slice a0 L0.length c0, .string s0, .int .i64 num0, .slice ai0 ni0 ci0, .slice at0 nt0 ct0] _ rfl).old _) hw1 (by simp)
  have tb1 := Tb.mono (Tb.new (W.alloc _) #[.int .u8 k1, .bool neg1, .slice a1 L1.length c1, .string s1, .int .i64 num1, .slice ai1 ni1 ci1, .slice at1 nt1 ct1] (W.heap.size + 1) (by simp)) hw1 (by simp)
  have U1 : Hid _ := V1
  clear V1 hw1
  go_wp2_with (first | (refine load_G _ _ rfl _ _ rfl ta1 rfl rfl ?_) | (refine load_G _ _ rfl _ _ rfl tb1 rfl rfl ?_))
  refine (R0.out _ (Hid.out U1)).mono ?_
  rintro e w2 ⟨rfl, hw2⟩
  have taw2 := Tb.mono ta1 hw2 (by simp)
  have tbw2 := Tb.mono tb1 hw2 (by simp)
  have Uw2 : Hid _ := Upd.trans (Hid.out U1) hw2
  clear hw2 ta1 tb1 U1
  go_wp2_with (first | (refine load_G _ _ rfl _ _ rfl taw2 rfl rfl ?_) | (refine load_G _ _ rfl _ _ rfl tbw2 rfl rfl ?_))
  refine (R1.out _ (Hid.out Uw2)).mono ?_
  rintro e w3 ⟨rfl, hw3⟩
  have taw3 := Tb.mono taw2 hw3 (by simp)
  have tbw3 := Tb.mono tbw2 hw3 (by simp)
  have Uw3 : Hid _ := Upd.trans (Hid.out Uw2) hw3
  clear hw3 taw2 tbw2 Uw2
  go_wp2_with (first | (refine load_G _ _ rfl _ _ rfl taw3 rfl rfl ?_) | (refine load_G _ _ rfl _ _ rfl tbw3 rfl rfl ?_))
  refine (D.out _ (Hid.out Uw3)).mono ?_
  rintro e w4 ⟨rfl, hw4⟩
  have taw4 := Tb.mono taw3 hw4 (by simp)
  have tbw4 := Tb.mono tbw3 hw4 (by simp)
  have Uw4 : Hid _ := Upd.trans (Hid.out Uw3) hw4
  clear hw4 taw3 tbw3 Uw3
  go_wp2
  go_ret
  exact ⟨rfl, by repeat (first | exact Hid.out Uw4 | refine Upd.alloc ?_ _)⟩

set_option maxHeartbeats 8000000 in
set_option maxRecDepth 100000 in
theorem WholeRest_zero (neg0 : Bool) (a0 ai0 at0 : Option Addr) (L0 : List Nat) (c0 ci0 ct0 : Nat) (neg1 : Bool) (a1 ai1 at1 : Option Addr) (L1 : List Nat) (c1 ci1 ct1 : Nat) (z0 : Int) (W : World) (T0 : TI W neg0 a0 L0 z0) (T1 : TI W neg1 a1 L1 0) :
    Calls Tryd.prog 6 #[.agg #[.int .u8 1, .bool neg0, .slice a0 L0.length c0, .string ⟨#[]⟩, .int .i64 0, .slice ai0 0 ci0, .slice at0 0 ct0], .agg #[.int .u8 1, .bool neg1, .slice a1 L1.length c1, .string ⟨#[]⟩, .int .i64 0, .slice ai1 0 ci1, .slice at1 0 ct1]] W fun e w' => e = .returned (.bool true) ∧ Upd [] W w' := by
  have R0 : Hid (∀ V, Upd [] W V → _) := fun V hu => TI.rightU (T0.mono hu) ai0 at0 c0 ci0 ct0
  have R1 : Hid (∀ V, Upd [] W V → _) := fun V hu => TI.rightU (T1.mono hu) ai1 at1 c1 ci1 ct1
  have D : Hid (∀ V, Upd [] W V → _) := fun V hu => Div_zero a0 ai0 at0 a1 ai1 at1 c0 ci0 ct0 c1 ci1 ct1 neg0 neg1 L0 L1 z0 V (T0.mono hu) (T1.mono hu)
  have HB : Hid (L1.length = 0) := by show L1.length = 0; rw [T1.norm.nil_iff.2 rfl]; rfl
  clear T0 T1
  go_enter Tryd.func6, Tryd.ntmps6
  go_wp2_with fail
  refine (awake_any _).mono ?_
  rintro e w1 ⟨rfl, hw1⟩
  have V1 := (((Upd.refl [] W).alloc _).alloc _).trans hw1
  have ta1 := Tb.mono ((Tb.new W #[.int .u8 1, .bool neg0, .slice a0 L0.length c0, .string ⟨#[]⟩, .int .i64 0, .slice ai0 0 ci0, .slice at0 0 ct0] _ rfl).old _) hw1 (by simp)
  have tb1 := Tb.mono (Tb.new (W.alloc _) #[.int .u8 1, .bool neg1, .slice a1 L1.length c1, .string ⟨#[]⟩, .int .i64 0, .slice ai1 0 ci1, .slice at1 0 ct1] (W.heap.size + 1) (by simp)) hw1 (by simp)
  have U1 : Hid _ := V1
  clear V1 hw1
  go_wp2_with (first | (refine load_G _ _ rfl _ _ rfl ta1 rfl rfl ?_) | (refine load_G _ _ rfl _ _ rfl tb1 rfl rfl ?_))
  refine (R0.out _ (Hid.out U1)).mono ?_
  rintro e w2 ⟨rfl, hw2⟩
  have taw2 := Tb.mono ta1 hw2 (by simp)
  have tbw2 := Tb.mono tb1 hw2 (by simp)
  have Uw2 : Hid _ := Upd.trans (Hid.out U1) hw2
  clear hw2 ta1 tb1 U1
  go_wp2_with (first | (refine load_G _ _ rfl _ _ rfl taw2 rfl rfl ?_) | (refine load_G _ _ rfl _ _ rfl tbw2 rfl rfl ?_))
  refine (R1.out _ (Hid.out Uw2)).mono ?_
  rintro e w3 ⟨rfl, hw3⟩
  have taw3 := Tb.mono taw2 hw3 (by simp)
  have tbw3 := Tb.mono tbw2 hw3 (by simp)
  have Uw3 : Hid _ := Upd.trans (Hid.out Uw2) hw3
  clear hw3 taw2 tbw2 Uw2
  have cl := tbw3.cell 2
  have hl : ((L1.length : Int) == 0) = true := by simp [HB.out]
  go_wp2_with (first | (refine load_G _ _ rfl _ _ rfl taw3 rfl rfl ?_) | (refine load_G _ _ rfl _ _ rfl tbw3 rfl rfl ?_))
  refine (D.out _ (Hid.out Uw3)).mono ?_
  rintro e w4 ⟨rfl, hw4⟩
  have taw4 := Tb.mono taw3 hw4 (by simp)
  have tbw4 := Tb.mono tbw3 hw4 (by simp)
  have Uw4 : Hid _ := Upd.trans (Hid.out Uw3) hw4
  clear hw4 taw3 tbw3 Uw3
  go_wp2
  go_ret
  exact ⟨rfl, by repeat (first | exact Hid.out Uw4 | refine Upd.alloc ?_ _)⟩

/-- WholeRest answers true, of whatever terms. -/
theorem WholeRest_walk : WholeRestWalk := by
  intro k0 num0 neg0 a0 ai0 at0 L0 c0 ni0 ci0 nt0 ct0 s0 k1 num1 neg1 a1 ai1 at1 L1 c1 ni1 ci1 nt1 ct1 s1 W hA0 hD0 hl0 hi0 ht0 hA1 hD1 hl1 hi1 ht1
  cases ha : okT k0 neg0 L0 s0 num0 ni0 nt0
  · exact WholeRest_bad0 k0 num0 neg0 a0 ai0 at0 L0 c0 ni0 ci0 nt0 ct0 s0 k1 num1 neg1 a1 ai1 at1 L1 c1 ni1 ci1 nt1 ct1 s1 W hA0 hD0 hl0 hi0 ht0 hA1 hD1 hl1 hi1 ht1 ha
  · cases hb : okT k1 neg1 L1 s1 num1 ni1 nt1
    · exact WholeRest_bad1 k0 num0 neg0 a0 ai0 at0 L0 c0 ni0 ci0 nt0 ct0 s0 k1 num1 neg1 a1 ai1 at1 L1 c1 ni1 ci1 nt1 ct1 s1 W hA0 hD0 hl0 hi0 ht0 hA1 hD1 hl1 hi1 ht1 ha hb
    · obtain ⟨rfl, rfl, rfl, rfl, rfl, T0⟩ := okT_elim ha hD0 hA0
      obtain ⟨rfl, rfl, rfl, rfl, rfl, T1⟩ := okT_elim hb hD1 hA1
      by_cases hz : sg neg1 (val L1) = 0
      · rw [hz] at T1
        exact WholeRest_zero neg0 a0 ai0 at0 L0 c0 ci0 ct0 neg1 a1 ai1 at1 L1 c1 ci1 ct1 _ W T0 T1
      · exact WholeRest_right neg0 a0 ai0 at0 L0 c0 ci0 ct0 _ neg1 a1 ai1 at1 L1 c1 ci1 ct1 _ W T0 T1 hz

/-- The card. -/
theorem wholeRest_card_holds : Rows.WholeRestCardSaid := wholeRest_card WholeRest_walk

end Go.Proofs.YtpeganecbjefoaaDoor
