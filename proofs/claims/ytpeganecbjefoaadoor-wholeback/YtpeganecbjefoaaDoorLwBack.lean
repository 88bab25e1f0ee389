/- WholeBack: whatever term and numbers it is given, the call returns true and leaves its arguments as they were: the card of the given row, tied to the program's text.
   Conditions: the row's own alone (the listed package variables stand as the text lays them). -/
import Derived.Test.YtpeganecbjefoaaDoorIntT
import Derived.Test.YtpeganecbjefoaaDoorSamT
import Derived.Test.YtpeganecbjefoaaDoorFrBack
namespace Go.Proofs.YtpeganecbjefoaaDoor
open Go.RowKit

theorem Int_of (a : Option Addr) (c : Nat) (neg : Bool) (M : List Nat) (z : Int) (w : World) (HT : TI w neg a M z) (hb : -9223372036854775808 ≤ z ∧ z ≤ 9223372036854775807) :
    Calls Tryd.prog 16 #[.agg #[.int .u8 1, .bool neg, .slice a M.length c, .string ⟨#[]⟩, .int .i64 0, .slice none 0 0, .slice none 0 0]] w fun e w' => e = .returned (.tuple #[.int .i64 z, .bool true]) ∧ Upd [] w w' := by
  refine (Int_any a none none c 0 0 neg M z w HT).mono ?_
  rintro e w' ⟨rfl, h⟩
  have hi : isI64 z = true := by simp [isI64]; omega
  exact ⟨by rw [hi, if_pos rfl], h⟩

theorem TI.uniq {w w' : World} {n m : Bool} {a b : Option Addr} {A B : List Nat} {z : Int} (h : TI w n a A z) (k : TI w' m b B z) : n = m ∧ A = B := ⟨by rw [h.sgn, k.sgn], h.norm.uniq k.norm⟩

set_option maxHeartbeats 8000000 in
set_option maxRecDepth 100000 in
theorem WholeBack_bad (k0 num0 : Int) (neg0 : Bool) (a0 ai0 at0 : Option Addr) (L0 : List Nat) (c0 ni0 ci0 nt0 ct0 : Nat) (s0 : ByteArray) (x1 x2 : Int) (W : World) (hA0 : At W a0 L0) (hl0 : L0.length ≤ 9223372036854775807) (hi0 : ni0 ≤ 9223372036854775807) (ht0 : nt0 ≤ 9223372036854775807) (hb1 : -9223372036854775808 ≤ x1 ∧ x1 ≤ 9223372036854775807) (hb2 : -9223372036854775808 ≤ x2 ∧ x2 ≤ 9223372036854775807) (hbad : okT k0 neg0 L0 s0 num0 ni0 nt0 = false) :
    Calls Tryd.prog 8 #[.agg #[.int .u8 k0, .bool neg0, .slice a0 L0.length c0, .string s0, .int .i64 num0, .slice ai0 ni0 ci0, .slice at0 nt0 ct0], .int .i64 x1, .int .i64 x2] W fun e w' => e = .returned (.bool true) ∧ Upd [] W w' := by
  have R0 : Hid (∀ V, Upd [] W V → _) := fun V hu => Right_upd k0 num0 neg0 L0 s0 a0 ai0 at0 c0 ni0 ci0 nt0 ct0 V false hl0 (hA0.mono hu) hi0 ht0 hbad
  have D : Hid (∀ V, Upd [] W V → _) := fun V hu => Text_bad k0 num0 neg0 L0 s0 a0 ai0 at0 c0 ni0 ci0 nt0 ct0 V hl0 (hA0.mono hu) hi0 ht0 hbad
  clear hbad hA0
  go_enter Tryd.func8, Tryd.ntmps8
  go_wp2_with fail
  refine (awake_any _).mono ?_
  rintro e w1 ⟨rfl, hw1⟩
  have V1 := ((Upd.refl [] W).alloc _).trans hw1
  have ta1 := Tb.mono (Tb.new W #[.int .u8 k0, .bool neg0, .slice a0 L0.length c0, .string s0, .int .i64 num0, .slice ai0 ni0 ci0, .slice at0 nt0 ct0] _ rfl) hw1 (by simp)
  have U1 : Hid (Upd [] W w1) := V1
  clear V1 hw1
  go_wp2_with (first | (refine load_G _ _ rfl _ _ rfl ta1 rfl rfl ?_))
  refine (Of_any x1 _ hb1).mono ?_
  rintro e w2 ⟨hw2, gx, ax, cx, Mx, rfl, Tx⟩
  have ix : Hid _ := Tx
  clear Tx
  have taw2 := Tb.mono ta1 hw2 (by simp)
  have Uw2 : Hid _ := Upd.trans (Hid.out U1) hw2
  clear hw2 ta1 U1
  go_wp2_with (first | (refine load_G _ _ rfl _ _ rfl taw2 rfl rfl ?_))
  refine (Of_any x2 _ hb2).mono ?_
  rintro e w3 ⟨hw3, gy, ay, cy, My, rfl, Ty⟩
  have iy : Hid _ := Ty
  clear Ty
  have taw3 := Tb.mono taw2 hw3 (by simp)
  have ixw3 : Hid _ := TI.mono (Hid.out ix) hw3
  have Uw3 : Hid _ := Upd.trans (Hid.out Uw2) hw3
  clear hw3 taw2 ix Uw2
  go_wp2_with (first | (refine load_G _ _ rfl _ _ rfl ((taw3.old _).old _) rfl rfl ?_) | (refine load_G _ _ rfl _ _ rfl ((Tb.new w3 _ _ rfl).old _) rfl rfl ?_) | (refine load_G _ _ rfl _ _ rfl (Tb.new (w3.alloc _) _ _ (by simp)) rfl rfl ?_))
  refine (Int_of ax cx gx Mx x1 _ (TI.mono (Hid.out ixw3) (((Upd.refl [] w3).alloc _).alloc _)) hb1).mono ?_
  rintro e w4 ⟨rfl, hw4⟩
  have Vw4 := (((Upd.refl [] w3).alloc _).alloc _).trans hw4
  have taw4 := Tb.mono ((taw3.old _).old _) hw4 (by simp)
  have txw4 := Tb.mono ((Tb.new w3 #[.int .u8 1, .bool gx, .slice ax Mx.length cx, .string ⟨#[]⟩, .int .i64 0, .slice none 0 0, .slice none 0 0] _ rfl).old _) hw4 (by simp)
  have tyw4 := Tb.mono (Tb.new (w3.alloc _) #[.int .u8 1, .bool gy, .slice ay My.length cy, .string ⟨#[]⟩, .int .i64 0, .slice none 0 0, .slice none 0 0] (w3.heap.size + 1) (by simp)) hw4 (by simp)
  have ixw4 : Hid _ := TI.mono (Hid.out ixw3) Vw4
  have iyw4 : Hid _ := TI.mono (Hid.out iy) Vw4
  have Uw4 : Hid _ := Upd.trans (Hid.out Uw3) Vw4
  clear hw4 Vw4 taw3 ixw3 iy Uw3
  rcases Int.lt_trichotomy x1 x2 with hh | hh | hh
  · have hc : cmpZ x1 x2 = -1 := by unfold cmpZ; repeat (first | rw [if_pos (by omega)] | rw [if_neg (by omega)])
    have d1 : decide (x1 < x2) = true := by simp; omega
    have d2 : decide (x1 > x2) = false := by simp; omega
    clear hh
    go_wp2_with (first | (refine load_G _ _ rfl _ _ rfl taw4 rfl rfl ?_) | (refine load_G _ _ rfl _ _ rfl txw4 rfl rfl ?_) | (refine load_G _ _ rfl _ _ rfl tyw4 rfl rfl ?_))
    refine (Compare_any ax none none ay none none cx 0 0 cy 0 0 gx gy Mx My _ _ _ (Hid.out ixw4) (Hid.out iyw4)).mono ?_
    rintro e w5 ⟨rfl, hw5⟩
    rw [hc]
    have taw5 := Tb.mono taw4 hw5 (by simp)
    have txw5 := Tb.mono txw4 hw5 (by simp)
    have tyw5 := Tb.mono tyw4 hw5 (by simp)
    have ixw5 : Hid _ := TI.mono (Hid.out ixw4) hw5
    have iyw5 : Hid _ := TI.mono (Hid.out iyw4) hw5
    have Uw5 : Hid _ := Upd.trans (Hid.out Uw4) hw5
    clear hw5 taw4 txw4 tyw4 ixw4 iyw4 Uw4
    go_wp2_with (first | (refine load_G _ _ rfl _ _ rfl taw5 rfl rfl ?_) | (refine load_G _ _ rfl _ _ rfl txw5 rfl rfl ?_) | (refine load_G _ _ rfl _ _ rfl tyw5 rfl rfl ?_))
    refine (TI.rightU (Hid.out ixw5) none none cx 0 0).mono ?_
    rintro e w6 ⟨rfl, hw6⟩
    have taw6 := Tb.mono taw5 hw6 (by simp)
    have txw6 := Tb.mono txw5 hw6 (by simp)
    have tyw6 := Tb.mono tyw5 hw6 (by simp)
    have ixw6 : Hid _ := TI.mono (Hid.out ixw5) hw6
    have iyw6 : Hid _ := TI.mono (Hid.out iyw5) hw6
    have Uw6 : Hid _ := Upd.trans (Hid.out Uw5) hw6
    clear hw6 taw5 txw5 tyw5 ixw5 iyw5 Uw5
    clear txw6 ixw6 tyw6 iyw6
    go_wp2_with (first | (refine load_G _ _ rfl _ _ rfl taw6 rfl rfl ?_))
    refine (R0.out _ (Hid.out Uw6)).mono ?_
    rintro e w7 ⟨rfl, hw7⟩
    have taw7 := Tb.mono taw6 hw7 (by simp)
    have Uw7 : Hid _ := Upd.trans (Hid.out Uw6) hw7
    clear hw7 taw6 Uw6
    go_wp2_with (first | (refine load_G _ _ rfl _ _ rfl taw7 rfl rfl ?_))
    refine (D.out _ (Hid.out Uw7)).mono ?_
    rintro e w8 ⟨rfl, hw8⟩
    have taw8 := Tb.mono taw7 hw8 (by simp)
    have Uw8 : Hid _ := Upd.trans (Hid.out Uw7) hw8
    clear hw8 taw7 Uw7
    go_wp2
    go_ret
    exact ⟨rfl, by repeat (first | exact Hid.out Uw8 | refine Upd.alloc ?_ _)⟩
  · have hc : cmpZ x1 x2 = 0 := by unfold cmpZ; repeat (first | rw [if_pos (by omega)] | rw [if_neg (by omega)])
    have d1 : decide (x1 < x2) = false := by simp; omega
    have d2 : decide (x1 > x2) = false := by simp; omega
    clear hh
    go_wp2_with (first | (refine load_G _ _ rfl _ _ rfl taw4 rfl rfl ?_) | (refine load_G _ _ rfl _ _ rfl txw4 rfl rfl ?_) | (refine load_G _ _ rfl _ _ rfl tyw4 rfl rfl ?_))
    refine (Compare_any ax none none ay none none cx 0 0 cy 0 0 gx gy Mx My _ _ _ (Hid.out ixw4) (Hid.out iyw4)).mono ?_
    rintro e w5 ⟨rfl, hw5⟩
    rw [hc]
    have taw5 := Tb.mono taw4 hw5 (by simp)
    have txw5 := Tb.mono txw4 hw5 (by simp)
    have tyw5 := Tb.mono tyw4 hw5 (by simp)
    have ixw5 : Hid _ := TI.mono (Hid.out ixw4) hw5
    have iyw5 : Hid _ := TI.mono (Hid.out iyw4) hw5
    have Uw5 : Hid _ := Upd.trans (Hid.out Uw4) hw5
    clear hw5 taw4 txw4 tyw4 ixw4 iyw4 Uw4
    go_wp2_with (first | (refine load_G _ _ rfl _ _ rfl taw5 rfl rfl ?_) | (refine load_G _ _ rfl _ _ rfl txw5 rfl rfl ?_) | (refine load_G _ _ rfl _ _ rfl tyw5 rfl rfl ?_))
    refine (TI.rightU (Hid.out ixw5) none none cx 0 0).mono ?_
    rintro e w6 ⟨rfl, hw6⟩
    have taw6 := Tb.mono taw5 hw6 (by simp)
    have txw6 := Tb.mono txw5 hw6 (by simp)
    have tyw6 := Tb.mono tyw5 hw6 (by simp)
    have ixw6 : Hid _ := TI.mono (Hid.out ixw5) hw6
    have iyw6 : Hid _ := TI.mono (Hid.out iyw5) hw6
    have Uw6 : Hid _ := Upd.trans (Hid.out Uw5) hw6
    clear hw6 taw5 txw5 tyw5 ixw5 iyw5 Uw5
    clear txw6 ixw6 tyw6 iyw6
    go_wp2_with (first | (refine load_G _ _ rfl _ _ rfl taw6 rfl rfl ?_))
    refine (R0.out _ (Hid.out Uw6)).mono ?_
    rintro e w7 ⟨rfl, hw7⟩
    have taw7 := Tb.mono taw6 hw7 (by simp)
    have Uw7 : Hid _ := Upd.trans (Hid.out Uw6) hw7
    clear hw7 taw6 Uw6
    go_wp2_with (first | (refine load_G _ _ rfl _ _ rfl taw7 rfl rfl ?_))
    refine (D.out _ (Hid.out Uw7)).mono ?_
    rintro e w8 ⟨rfl, hw8⟩
    have taw8 := Tb.mono taw7 hw8 (by simp)
    have Uw8 : Hid _ := Upd.trans (Hid.out Uw7) hw8
    clear hw8 taw7 Uw7
    go_wp2
    go_ret
    exact ⟨rfl, by repeat (first | exact Hid.out Uw8 | refine Upd.alloc ?_ _)⟩
  · have hc : cmpZ x1 x2 = 1 := by unfold cmpZ; repeat (first | rw [if_pos (by omega)] | rw [if_neg (by omega)])
    have d1 : decide (x1 < x2) = false := by simp; omega
    have d2 : decide (x1 > x2) = true := by simp; omega
    clear hh
    go_wp2_with (first | (refine load_G _ _ rfl _ _ rfl taw4 rfl rfl ?_) | (refine load_G _ _ rfl _ _ rfl txw4 rfl rfl ?_) | (refine load_G _ _ rfl _ _ rfl tyw4 rfl rfl ?_))
    refine (Compare_any ax none none ay none none cx 0 0 cy 0 0 gx gy Mx My _ _ _ (Hid.out ixw4) (Hid.out iyw4)).mono ?_
    rintro e w5 ⟨rfl, hw5⟩
    rw [hc]
    have taw5 := Tb.mono taw4 hw5 (by simp)
    have txw5 := Tb.mono txw4 hw5 (by simp)
    have tyw5 := Tb.mono tyw4 hw5 (by simp)
    have ixw5 : Hid _ := TI.mono (Hid.out ixw4) hw5
    have iyw5 : Hid _ := TI.mono (Hid.out iyw4) hw5
    have Uw5 : Hid _ := Upd.trans (Hid.out Uw4) hw5
    clear hw5 taw4 txw4 tyw4 ixw4 iyw4 Uw4
    go_wp2_with (first | (refine load_G _ _ rfl _ _ rfl taw5 rfl rfl ?_) | (refine load_G _ _ rfl _ _ rfl txw5 rfl rfl ?_) | (refine load_G _ _ rfl _ _ rfl tyw5 rfl rfl ?_))
    refine (TI.rightU (Hid.out ixw5) none none cx 0 0).mono ?_
    rintro e w6 ⟨rfl, hw6⟩
    have taw6 := Tb.mono taw5 hw6 (by simp)
    have txw6 := Tb.mono txw5 hw6 (by simp)
    have tyw6 := Tb.mono tyw5 hw6 (by simp)
    have ixw6 : Hid _ := TI.mono (Hid.out ixw5) hw6
    have iyw6 : Hid _ := TI.mono (Hid.out iyw5) hw6
    have Uw6 : Hid _ := Upd.trans (Hid.out Uw5) hw6
    clear hw6 taw5 txw5 tyw5 ixw5 iyw5 Uw5
    clear txw6 ixw6 tyw6 iyw6
    go_wp2_with (first | (refine load_G _ _ rfl _ _ rfl taw6 rfl rfl ?_))
    refine (R0.out _ (Hid.out Uw6)).mono ?_
    rintro e w7 ⟨rfl, hw7⟩
    have taw7 := Tb.mono taw6 hw7 (by simp)
    have Uw7 : Hid _ := Upd.trans (Hid.out Uw6) hw7
    clear hw7 taw6 Uw6
    go_wp2_with (first | (refine load_G _ _ rfl _ _ rfl taw7 rfl rfl ?_))
    refine (D.out _ (Hid.out Uw7)).mono ?_
    rintro e w8 ⟨rfl, hw8⟩
    have taw8 := Tb.mono taw7 hw8 (by simp)
    have Uw8 : Hid _ := Upd.trans (Hid.out Uw7) hw8
    clear hw8 taw7 Uw7
    go_wp2
    go_ret
    exact ⟨rfl, by repeat (first | exact Hid.out Uw8 | refine Upd.alloc ?_ _)⟩

set_option maxHeartbeats 8000000 in
set_option maxRecDepth 100000 in
theorem WholeBack_right (neg0 : Bool) (a0 ai0 at0 : Option Addr) (L0 : List Nat) (c0 ci0 ct0 : Nat) (z0 x1 x2 : Int) (W : World) (T0 : TI W neg0 a0 L0 z0) (hb1 : -9223372036854775808 ≤ x1 ∧ x1 ≤ 9223372036854775807) (hb2 : -9223372036854775808 ≤ x2 ∧ x2 ≤ 9223372036854775807) :
    Calls Tryd.prog 8 #[.agg #[.int .u8 1, .bool neg0, .slice a0 L0.length c0, .string ⟨#[]⟩, .int .i64 0, .slice ai0 0 ci0, .slice at0 0 ct0], .int .i64 x1, .int .i64 x2] W fun e w' => e = .returned (.bool true) ∧ Upd [] W w' := by
  have R0 : Hid (∀ V, Upd [] W V → _) := fun V hu => TI.rightU (T0.mono hu) ai0 at0 c0 ci0 ct0
  have I0 : Hid _ := T0
  clear T0
  go_enter Tryd.func8, Tryd.ntmps8
  go_wp2_with fail
  refine (awake_any _).mono ?_
  rintro e w1 ⟨rfl, hw1⟩
  have V1 := ((Upd.refl [] W).alloc _).trans hw1
  have ta1 := Tb.mono (Tb.new W #[.int .u8 1, .bool neg0, .slice a0 L0.length c0, .string ⟨#[]⟩, .int .i64 0, .slice ai0 0 ci0, .slice at0 0 ct0] _ rfl) hw1 (by simp)
  have U1 : Hid (Upd [] W w1) := V1
  clear V1 hw1
  go_wp2_with (first | (refine load_G _ _ rfl _ _ rfl ta1 rfl rfl ?_))
  refine (Of_any x1 _ hb1).mono ?_
  rintro e w2 ⟨hw2, gx, ax, cx, Mx, rfl, Tx⟩
  have ix : Hid _ := Tx
  clear Tx
  have taw2 := Tb.mono ta1 hw2 (by simp)
  have Uw2 : Hid _ := Upd.trans (Hid.out U1) hw2
  clear hw2 ta1 U1
  go_wp2_with (first | (refine load_G _ _ rfl _ _ rfl taw2 rfl rfl ?_))
  refine (Of_any x2 _ hb2).mono ?_
  rintro e w3 ⟨hw3, gy, ay, cy, My, rfl, Ty⟩
  have iy : Hid _ := Ty
  clear Ty
  have taw3 := Tb.mono taw2 hw3 (by simp)
  have ixw3 : Hid _ := TI.mono (Hid.out ix) hw3
  have Uw3 : Hid _ := Upd.trans (Hid.out Uw2) hw3
  clear hw3 taw2 ix Uw2
  go_wp2_with (first | (refine load_G _ _ rfl _ _ rfl ((taw3.old _).old _) rfl rfl ?_) | (refine load_G _ _ rfl _ _ rfl ((Tb.new w3 _ _ rfl).old _) rfl rfl ?_) | (refine load_G _ _ rfl _ _ rfl (Tb.new (w3.alloc _) _ _ (by simp)) rfl rfl ?_))
  refine (Int_of ax cx gx Mx x1 _ (TI.mono (Hid.out ixw3) (((Upd.refl [] w3).alloc _).alloc _)) hb1).mono ?_
  rintro e w4 ⟨rfl, hw4⟩
  have Vw4 := (((Upd.refl [] w3).alloc _).alloc _).trans hw4
  have taw4 := Tb.mono ((taw3.old _).old _) hw4 (by simp)
  have txw4 := Tb.mono ((Tb.new w3 #[.int .u8 1, .bool gx, .slice ax Mx.length cx, .string ⟨#[]⟩, .int .i64 0, .slice none 0 0, .slice none 0 0] _ rfl).old _) hw4 (by simp)
  have tyw4 := Tb.mono (Tb.new (w3.alloc _) #[.int .u8 1, .bool gy, .slice ay My.length cy, .string ⟨#[]⟩, .int .i64 0, .slice none 0 0, .slice none 0 0] (w3.heap.size + 1) (by simp)) hw4 (by simp)
  have ixw4 : Hid _ := TI.mono (Hid.out ixw3) Vw4
  have iyw4 : Hid _ := TI.mono (Hid.out iy) Vw4
  have Uw4 : Hid _ := Upd.trans (Hid.out Uw3) Vw4
  clear hw4 Vw4 taw3 ixw3 iy Uw3
  have ia0 : Hid _ := TI.mono (Hid.out I0) (Hid.out Uw4)
  clear I0
  rcases Int.lt_trichotomy x1 x2 with hh | hh | hh
  · have hc : cmpZ x1 x2 = -1 := by unfold cmpZ; repeat (first | rw [if_pos (by omega)] | rw [if_neg (by omega)])
    have d1 : decide (x1 < x2) = true := by simp; omega
    have d2 : decide (x1 > x2) = false := by simp; omega
    clear hh
    go_wp2_with (first | (refine load_G _ _ rfl _ _ rfl taw4 rfl rfl ?_) | (refine load_G _ _ rfl _ _ rfl txw4 rfl rfl ?_) | (refine load_G _ _ rfl _ _ rfl tyw4 rfl rfl ?_))
    refine (Compare_any ax none none ay none none cx 0 0 cy 0 0 gx gy Mx My _ _ _ (Hid.out ixw4) (Hid.out iyw4)).mono ?_
    rintro e w5 ⟨rfl, hw5⟩
    rw [hc]
    have taw5 := Tb.mono taw4 hw5 (by simp)
    have txw5 := Tb.mono txw4 hw5 (by simp)
    have tyw5 := Tb.mono tyw4 hw5 (by simp)
    have ixw5 : Hid _ := TI.mono (Hid.out ixw4) hw5
    have iyw5 : Hid _ := TI.mono (Hid.out iyw4) hw5
    have iaw5 : Hid _ := TI.mono (Hid.out ia0) hw5
    have Uw5 : Hid _ := Upd.trans (Hid.out Uw4) hw5
    clear hw5 taw4 txw4 tyw4 ixw4 iyw4 ia0 Uw4
    go_wp2_with (first | (refine load_G _ _ rfl _ _ rfl taw5 rfl rfl ?_) | (refine load_G _ _ rfl _ _ rfl txw5 rfl rfl ?_) | (refine load_G _ _ rfl _ _ rfl tyw5 rfl rfl ?_))
    refine (TI.rightU (Hid.out ixw5) none none cx 0 0).mono ?_
    rintro e w6 ⟨rfl, hw6⟩
    have taw6 := Tb.mono taw5 hw6 (by simp)
    have txw6 := Tb.mono txw5 hw6 (by simp)
    have tyw6 := Tb.mono tyw5 hw6 (by simp)
    have ixw6 : Hid _ := TI.mono (Hid.out ixw5) hw6
    have iyw6 : Hid _ := TI.mono (Hid.out iyw5) hw6
    have iaw6 : Hid _ := TI.mono (Hid.out iaw5) hw6
    have Uw6 : Hid _ := Upd.trans (Hid.out Uw5) hw6
    clear hw6 taw5 txw5 tyw5 ixw5 iyw5 iaw5 Uw5
    clear txw6 ixw6 tyw6 iyw6
    go_wp2_with (first | (refine load_G _ _ rfl _ _ rfl taw6 rfl rfl ?_))
    refine (R0.out _ (Hid.out Uw6)).mono ?_
    rintro e w7 ⟨rfl, hw7⟩
    have taw7 := Tb.mono taw6 hw7 (by simp)
    have iaw7 : Hid _ := TI.mono (Hid.out iaw6) hw7
    have Uw7 : Hid _ := Upd.trans (Hid.out Uw6) hw7
    clear hw7 taw6 iaw6 Uw6
    go_wp2_with (first | (refine load_G _ _ rfl _ _ rfl taw7 rfl rfl ?_))
    refine (Text_any a0 ai0 at0 c0 ci0 ct0 neg0 L0 z0 _ (Hid.out iaw7)).mono ?_
    rintro e w8 ⟨hw8, T, rfl, hT⟩
    have HT : Hid (IsText T z0) := hT
    clear hT
    have taw8 := Tb.mono taw7 hw8 (by simp)
    have iaw8 : Hid _ := TI.mono (Hid.out iaw7) hw8
    have Uw8 : Hid _ := Upd.trans (Hid.out Uw7) hw8
    clear hw8 taw7 iaw7 Uw7
    go_wp2_with (first | (refine load_G _ _ rfl _ _ rfl taw8 rfl rfl ?_))
    refine (Parse_any T z0 _ (Hid.out HT) (Hid.out iaw8).small).mono ?_
    rintro e w9 ⟨hR, hw9⟩
    obtain ⟨_, gt, at_, ct, Mt, rfl, Tt⟩ := hR.resolve_right (fun h => h.1 (Hid.out iaw8).small)
    obtain ⟨rfl, rfl⟩ := TI.uniq (Hid.out iaw8) Tt
    have it : Hid _ := Tt
    clear Tt hR
    have taw9 := Tb.mono taw8 hw9 (by simp)
    have iaw9 : Hid _ := TI.mono (Hid.out iaw8) hw9
    have Uw9 : Hid _ := Upd.trans (Hid.out Uw8) hw9
    clear hw9 taw8 iaw8 Uw8
    go_wp2_with (first | (refine load_G _ _ rfl _ _ rfl (taw9.old _) rfl rfl ?_) | (refine load_G _ _ rfl _ _ rfl (Tb.new w9 _ _ rfl) rfl rfl ?_))
    refine (SameTerm_same 1 neg0 at_ none none a0 ai0 at0 ct 0 0 c0 ci0 ct0 L0 _ (by have := (Hid.out iaw9).len; omega) (TI.mono (Hid.out it) ((Upd.refl [] w9).alloc _)).mem (TI.mono (Hid.out iaw9) ((Upd.refl [] w9).alloc _)).mem).mono ?_
    rintro e w10 ⟨rfl, hw10⟩
    have Vw10 := ((Upd.refl [] w9).alloc _).trans hw10
    have taw10 := Tb.mono (taw9.old _) hw10 (by simp)
    have ttw10 := Tb.mono (Tb.new w9 #[.int .u8 1, .bool neg0, .slice at_ L0.length ct, .string ⟨#[]⟩, .int .i64 0, .slice none 0 0, .slice none 0 0] _ rfl) hw10 (by simp)
    have iaw10 : Hid _ := TI.mono (Hid.out iaw9) Vw10
    have itw10 : Hid _ := TI.mono (Hid.out it) Vw10
    have Uw10 : Hid _ := Upd.trans (Hid.out Uw9) Vw10
    clear hw10 Vw10 taw9 iaw9 it Uw9
    go_wp2
    go_ret
    exact ⟨rfl, by repeat (first | exact Hid.out Uw10 | refine Upd.alloc ?_ _)⟩
  · have hc : cmpZ x1 x2 = 0 := by unfold cmpZ; repeat (first | rw [if_pos (by omega)] | rw [if_neg (by omega)])
    have d1 : decide (x1 < x2) = false := by simp; omega
    have d2 : decide (x1 > x2) = false := by simp; omega
    clear hh
    go_wp2_with (first | (refine load_G _ _ rfl _ _ rfl taw4 rfl rfl ?_) | (refine load_G _ _ rfl _ _ rfl txw4 rfl rfl ?_) | (refine load_G _ _ rfl _ _ rfl tyw4 rfl rfl ?_))
    refine (Compare_any ax none none ay none none cx 0 0 cy 0 0 gx gy Mx My _ _ _ (Hid.out ixw4) (Hid.out iyw4)).mono ?_
    rintro e w5 ⟨rfl, hw5⟩
    rw [hc]
    have taw5 := Tb.mono taw4 hw5 (by simp)
    have txw5 := Tb.mono txw4 hw5 (by simp)
    have tyw5 := Tb.mono tyw4 hw5 (by simp)
    have ixw5 : Hid _ := TI.mono (Hid.out ixw4) hw5
    have iyw5 : Hid _ := TI.mono (Hid.out iyw4) hw5
    have iaw5 : Hid _ := TI.mono (Hid.out ia0) hw5
    have Uw5 : Hid _ := Upd.trans (Hid.out Uw4) hw5
    clear hw5 taw4 txw4 tyw4 ixw4 iyw4 ia0 Uw4
    go_wp2_with (first | (refine load_G _ _ rfl _ _ rfl taw5 rfl rfl ?_) | (refine load_G _ _ rfl _ _ rfl txw5 rfl rfl ?_) | (refine load_G _ _ rfl _ _ rfl tyw5 rfl rfl ?_))
    refine (TI.rightU (Hid.out ixw5) none none cx 0 0).mono ?_
    rintro e w6 ⟨rfl, hw6⟩
    have taw6 := Tb.mono taw5 hw6 (by simp)
    have txw6 := Tb.mono txw5 hw6 (by simp)
    have tyw6 := Tb.mono tyw5 hw6 (by simp)
    have ixw6 : Hid _ := TI.mono (Hid.out ixw5) hw6
    have iyw6 : Hid _ := TI.mono (Hid.out iyw5) hw6
    have iaw6 : Hid _ := TI.mono (Hid.out iaw5) hw6
    have Uw6 : Hid _ := Upd.trans (Hid.out Uw5) hw6
    clear hw6 taw5 txw5 tyw5 ixw5 iyw5 iaw5 Uw5
    clear txw6 ixw6 tyw6 iyw6
    go_wp2_with (first | (refine load_G _ _ rfl _ _ rfl taw6 rfl rfl ?_))
    refine (R0.out _ (Hid.out Uw6)).mono ?_
    rintro e w7 ⟨rfl, hw7⟩
    have taw7 := Tb.mono taw6 hw7 (by simp)
    have iaw7 : Hid _ := TI.mono (Hid.out iaw6) hw7
    have Uw7 : Hid _ := Upd.trans (Hid.out Uw6) hw7
    clear hw7 taw6 iaw6 Uw6
    go_wp2_with (first | (refine load_G _ _ rfl _ _ rfl taw7 rfl rfl ?_))
    refine (Text_any a0 ai0 at0 c0 ci0 ct0 neg0 L0 z0 _ (Hid.out iaw7)).mono ?_
    rintro e w8 ⟨hw8, T, rfl, hT⟩
    have HT : Hid (IsText T z0) := hT
    clear hT
    have taw8 := Tb.mono taw7 hw8 (by simp)
    have iaw8 : Hid _ := TI.mono (Hid.out iaw7) hw8
    have Uw8 : Hid _ := Upd.trans (Hid.out Uw7) hw8
    clear hw8 taw7 iaw7 Uw7
    go_wp2_with (first | (refine load_G _ _ rfl _ _ rfl taw8 rfl rfl ?_))
    refine (Parse_any T z0 _ (Hid.out HT) (Hid.out iaw8).small).mono ?_
    rintro e w9 ⟨hR, hw9⟩
    obtain ⟨_, gt, at_, ct, Mt, rfl, Tt⟩ := hR.resolve_right (fun h => h.1 (Hid.out iaw8).small)
    obtain ⟨rfl, rfl⟩ := TI.uniq (Hid.out iaw8) Tt
    have it : Hid _ := Tt
    clear Tt hR
    have taw9 := Tb.mono taw8 hw9 (by simp)
    have iaw9 : Hid _ := TI.mono (Hid.out iaw8) hw9
    have Uw9 : Hid _ := Upd.trans (Hid.out Uw8) hw9
    clear hw9 taw8 iaw8 Uw8
    go_wp2_with (first | (refine load_G _ _ rfl _ _ rfl (taw9.old _) rfl rfl ?_) | (refine load_G _ _ rfl _ _ rfl (Tb.new w9 _ _ rfl) rfl rfl ?_))
    refine (SameTerm_same 1 neg0 at_ none none a0 ai0 at0 ct 0 0 c0 ci0 ct0 L0 _ (by have := (Hid.out iaw9).len; omega) (TI.mono (Hid.out it) ((Upd.refl [] w9).alloc _)).mem (TI.mono (Hid.out iaw9) ((Upd.refl [] w9).alloc _)).mem).mono ?_
    rintro e w10 ⟨rfl, hw10⟩
    have Vw10 := ((Upd.refl [] w9).alloc _).trans hw10
    have taw10 := Tb.mono (taw9.old _) hw10 (by simp)
    have ttw10 := Tb.mono (Tb.new w9 #[.int .u8 1, .bool neg0, .slice at_ L0.length ct, .string ⟨#[]⟩, .int .i64 0, .slice none 0 0, .slice none 0 0] _ rfl) hw10 (by simp)
    have iaw10 : Hid _ := TI.mono (Hid.out iaw9) Vw10
    have itw10 : Hid _ := TI.mono (Hid.out it) Vw10
    have Uw10 : Hid _ := Upd.trans (Hid.out Uw9) Vw10
    clear hw10 Vw10 taw9 iaw9 it Uw9
    go_wp2
    go_ret
    exact ⟨rfl, by repeat (first | exact Hid.out Uw10 | refine Upd.alloc ?_ _)⟩
  · have hc : cmpZ x1 x2 = 1 := by unfold cmpZ; repeat (first | rw [if_pos (by omega)] | rw [if_neg (by omega)])
    have d1 : decide (x1 < x2) = false := by simp; omega
    have d2 : decide (x1 > x2) = true := by simp; omega
    clear hh
    go_wp2_with (first | (refine load_G _ _ rfl _ _ rfl taw4 rfl rfl ?_) | (refine load_G _ _ rfl _ _ rfl txw4 rfl rfl ?_) | (refine load_G _ _ rfl _ _ rfl tyw4 rfl rfl ?_))
    refine (Compare_any ax none none ay none none cx 0 0 cy 0 0 gx gy Mx My _ _ _ (Hid.out ixw4) (Hid.out iyw4)).mono ?_
    rintro e w5 ⟨rfl, hw5⟩
    rw [hc]
    have taw5 := Tb.mono taw4 hw5 (by simp)
    have txw5 := Tb.mono txw4 hw5 (by simp)
    have tyw5 := Tb.mono tyw4 hw5 (by simp)
    have ixw5 : Hid _ := TI.mono (Hid.out ixw4) hw5
    have iyw5 : Hid _ := TI.mono (Hid.out iyw4) hw5
    have iaw5 : Hid _ := TI.mono (Hid.out ia0) hw5
    have Uw5 : Hid _ := Upd.trans (Hid.out Uw4) hw5
    clear hw5 taw4 txw4 tyw4 ixw4 iyw4 ia0 Uw4
    go_wp2_with (first | (refine load_G _ _ rfl _ _ rfl taw5 rfl rfl ?_) | (refine load_G _ _ rfl _ _ rfl txw5 rfl rfl ?_) | (refine load_G _ _ rfl _ _ rfl tyw5 rfl rfl ?_))
    refine (TI.rightU (Hid.out ixw5) none none cx 0 0).mono ?_
    rintro e w6 ⟨rfl, hw6⟩
    have taw6 := Tb.mono taw5 hw6 (by simp)
    have txw6 := Tb.mono txw5 hw6 (by simp)
    have tyw6 := Tb.mono tyw5 hw6 (by simp)
    have ixw6 : Hid _ := TI.mono (Hid.out ixw5) hw6
    have iyw6 : Hid _ := TI.mono (Hid.out iyw5) hw6
    have iaw6 : Hid _ := TI.mono (Hid.out iaw5) hw6
    have Uw6 : Hid _ := Upd.trans (Hid.out Uw5) hw6
    clear hw6 taw5 txw5 tyw5 ixw5 iyw5 iaw5 Uw5
    clear txw6 ixw6 tyw6 iyw6
    go_wp2_with (first | (refine load_G _ _ rfl _ _ rfl taw6 rfl rfl ?_))
    refine (R0.out _ (Hid.out Uw6)).mono ?_
    rintro e w7 ⟨rfl, hw7⟩
    have taw7 := Tb.mono taw6 hw7 (by simp)
    have iaw7 : Hid _ := TI.mono (Hid.out iaw6) hw7
    have Uw7 : Hid _ := Upd.trans (Hid.out Uw6) hw7
    clear hw7 taw6 iaw6 Uw6
    go_wp2_with (first | (refine load_G _ _ rfl _ _ rfl taw7 rfl rfl ?_))
    refine (Text_any a0 ai0 at0 c0 ci0 ct0 neg0 L0 z0 _ (Hid.out iaw7)).mono ?_
    rintro e w8 ⟨hw8, T, rfl, hT⟩
    have HT : Hid (IsText T z0) := hT
    clear hT
    have taw8 := Tb.mono taw7 hw8 (by simp)
    have iaw8 : Hid _ := TI.mono (Hid.out iaw7) hw8
    have Uw8 : Hid _ := Upd.trans (Hid.out Uw7) hw8
    clear hw8 taw7 iaw7 Uw7
    go_wp2_with (first | (refine load_G _ _ rfl _ _ rfl taw8 rfl rfl ?_))
    refine (Parse_any T z0 _ (Hid.out HT) (Hid.out iaw8).small).mono ?_
    rintro e w9 ⟨hR, hw9⟩
    obtain ⟨_, gt, at_, ct, Mt, rfl, Tt⟩ := hR.resolve_right (fun h => h.1 (Hid.out iaw8).small)
    obtain ⟨rfl, rfl⟩ := TI.uniq (Hid.out iaw8) Tt
    have it : Hid _ := Tt
    clear Tt hR
    have taw9 := Tb.mono taw8 hw9 (by simp)
    have iaw9 : Hid _ := TI.mono (Hid.out iaw8) hw9
    have Uw9 : Hid _ := Upd.trans (Hid.out Uw8) hw9
    clear hw9 taw8 iaw8 Uw8
    go_wp2_with (first | (refine load_G _ _ rfl _ _ rfl (taw9.old _) rfl rfl ?_) | (refine load_G _ _ rfl _ _ rfl (Tb.new w9 _ _ rfl) rfl rfl ?_))
    refine (SameTerm_same 1 neg0 at_ none none a0 ai0 at0 ct 0 0 c0 ci0 ct0 L0 _ (by have := (Hid.out iaw9).len; omega) (TI.mono (Hid.out it) ((Upd.refl [] w9).alloc _)).mem (TI.mono (Hid.out iaw9) ((Upd.refl [] w9).alloc _)).mem).mono ?_
    rintro e w10 ⟨rfl, hw10⟩
    have Vw10 := ((Upd.refl [] w9).alloc _).trans hw10
    have taw10 := Tb.mono (taw9.old _) hw10 (by simp)
    have ttw10 := Tb.mono (Tb.new w9 #[.int .u8 1, .bool neg0, .slice at_ L0.length ct, .string ⟨#[]⟩, .int .i64 0, .slice none 0 0, .slice none 0 0] _ rfl) hw10 (by simp)
    have iaw10 : Hid _ := TI.mono (Hid.out iaw9) Vw10
    have itw10 : Hid _ := TI.mono (Hid.out it) Vw10
    have Uw10 : Hid _ := Upd.trans (Hid.out Uw9) Vw10
    clear hw10 Vw10 taw9 iaw9 it Uw9
    go_wp2
    go_ret
    exact ⟨rfl, by repeat (first | exact Hid.out Uw10 | refine Upd.alloc ?_ _)⟩

/-- WholeBack answers true, of whatever. -/
theorem WholeBack_walk : WholeBackWalk := by
  intro k0 num0 neg0 a0 ai0 at0 L0 c0 ni0 ci0 nt0 ct0 s0 x1 x2 W hA0 hD0 hl0 hi0 ht0 hb1 hb2
  cases ha : okT k0 neg0 L0 s0 num0 ni0 nt0
  · exact WholeBack_bad k0 num0 neg0 a0 ai0 at0 L0 c0 ni0 ci0 nt0 ct0 s0 x1 x2 W hA0 hl0 hi0 ht0 hb1 hb2 ha
  · obtain ⟨rfl, rfl, rfl, rfl, rfl, T0⟩ := okT_elim ha hD0 hA0
    exact WholeBack_right neg0 a0 ai0 at0 L0 c0 ci0 ct0 _ x1 x2 W T0 hb1 hb2

/-- The card. -/
theorem wholeBack_card_holds : Rows.WholeBackCardSaid := wholeBack_card WholeBack_walk

end Go.Proofs.YtpeganecbjefoaaDoor
