/- WholeProducts: whatever two terms it is given, the call returns true and leaves its arguments as they were: the card of the given row, tied to the program's text.
   Conditions: the row's own alone (the listed package variables stand as the text lays them). -/
import Derived.Test.YtpeganecbjefoaaDoorRefP
import Derived.Test.YtpeganecbjefoaaDoorSmallL
import Derived.Test.YtpeganecbjefoaaDoorFrProds
namespace Go.Proofs.YtpeganecbjefoaaDoor
open Go.RowKit

set_option maxHeartbeats 8000000 in
set_option maxRecDepth 100000 in
theorem WholeProducts_core (k0 num0 : Int) (neg0 : Bool) (a0 ai0 at0 : Option Addr) (L0 : List Nat) (c0 ni0 ci0 nt0 ct0 : Nat) (s0 : ByteArray) (k1 num1 : Int) (neg1 : Bool) (a1 ai1 at1 : Option Addr) (L1 : List Nat) (c1 ni1 ci1 nt1 ct1 : Nat) (s1 : ByteArray) (W : World) (K1 K2 : Int) (p1 p2 p3 : Bool) (P L M : List Nat) (o1 o2 : Bool) (hP : P.length ≤ 32) (hL : L.length ≤ 32) (hM : M.length ≤ 32)
    (hT1 : PT 24 #[.agg #[.int .u8 k0, .bool neg0, .slice a0 L0.length c0, .string s0, .int .i64 num0, .slice ai0 ni0 ci0, .slice at0 nt0 ct0], .agg #[.int .u8 k1, .bool neg1, .slice a1 L1.length c1, .string s1, .int .i64 num1, .slice ai1 ni1 ci1, .slice at1 nt1 ct1]] W K1 p1 P o1) (hT2 : PT 25 #[.agg #[.int .u8 k0, .bool neg0, .slice a0 L0.length c0, .string s0, .int .i64 num0, .slice ai0 ni0 ci0, .slice at0 nt0 ct0], .agg #[.int .u8 k1, .bool neg1, .slice a1 L1.length c1, .string s1, .int .i64 num1, .slice ai1 ni1 ci1, .slice at1 nt1 ct1]] W K1 p1 P o1) (hD1 : PD 26 #[.agg #[.int .u8 k0, .bool neg0, .slice a0 L0.length c0, .string s0, .int .i64 num0, .slice ai0 ni0 ci0, .slice at0 nt0 ct0], .agg #[.int .u8 k1, .bool neg1, .slice a1 L1.length c1, .string s1, .int .i64 num1, .slice ai1 ni1 ci1, .slice at1 nt1 ct1]] W K2 p2 p3 L M o2) (hD2 : PD 27 #[.agg #[.int .u8 k0, .bool neg0, .slice a0 L0.length c0, .string s0, .int .i64 num0, .slice ai0 ni0 ci0, .slice at0 nt0 ct0], .agg #[.int .u8 k1, .bool neg1, .slice a1 L1.length c1, .string s1, .int .i64 num1, .slice ai1 ni1 ci1, .slice at1 nt1 ct1]] W K2 p2 p3 L M o2) :
    Calls Tryd.prog 4 #[.agg #[.int .u8 k0, .bool neg0, .slice a0 L0.length c0, .string s0, .int .i64 num0, .slice ai0 ni0 ci0, .slice at0 nt0 ct0], .agg #[.int .u8 k1, .bool neg1, .slice a1 L1.length c1, .string s1, .int .i64 num1, .slice ai1 ni1 ci1, .slice at1 nt1 ct1]] W fun e w' => e = .returned (.bool true) ∧ Upd [] W w' := by
  have HT1 : Hid (PT _ _ W K1 p1 P o1) := hT1
  have HT2 : Hid (PT _ _ W K1 p1 P o1) := hT2
  have HD1 : Hid (PD _ _ W K2 p2 p3 L M o2) := hD1
  have HD2 : Hid (PD _ _ W K2 p2 p3 L M o2) := hD2
  clear hT1 hT2 hD1 hD2
  go_enter Tryd.func4, Tryd.ntmps4
  go_wp2_with fail
  refine (awake_any _).mono ?_
  rintro e w1 ⟨rfl, hw1⟩
  have V1 := (((Upd.refl [] W).alloc _).alloc _).trans hw1
  have ta1 := Tb.mono ((Tb.new W #[.int .u8 k0, .bool neg0, .slice a0 L0.length c0, .string s0, .int .i64 num0, .slice ai0 ni0 ci0, .slice at0 nt0 ct0] _ rfl).old _) hw1 (by simp)
  have tb1 := Tb.mono (Tb.new (W.alloc _) #[.int .u8 k1, .bool neg1, .slice a1 L1.length c1, .string s1, .int .i64 num1, .slice ai1 ni1 ci1, .slice at1 nt1 ct1] (W.heap.size + 1) (by simp)) hw1 (by simp)
  have U1 : Hid (Upd [] W w1) := V1
  clear V1 hw1
  go_wp2_with (first | (refine load_G _ _ rfl _ _ rfl ta1 rfl rfl ?_) | (refine load_G _ _ rfl _ _ rfl tb1 rfl rfl ?_))
  refine (small_any k0 num0 k1 num1 neg0 neg1 L0 L1 s0 s1 a0 ai0 at0 a1 ai1 at1 c0 ni0 ci0 nt0 ct0 c1 ni1 ci1 nt1 ct1 _).mono ?_
  rintro e w2 ⟨⟨t, rfl⟩, hw2⟩
  have taw2 := Tb.mono ta1 hw2 (by simp)
  have tbw2 := Tb.mono tb1 hw2 (by simp)
  have Uw2 : Hid _ := Upd.trans (Hid.out U1) hw2
  clear hw2 ta1 tb1 U1
  cases t
  · go_wp2
    go_ret
    exact ⟨rfl, Hid.out Uw2⟩
  · go_wp2_with (first | (refine load_G _ _ rfl _ _ rfl taw2 rfl rfl ?_) | (refine load_G _ _ rfl _ _ rfl tbw2 rfl rfl ?_))
    refine (Hid.out HT1 _ (Hid.out Uw2)).mono ?_
    rintro e w3 ⟨hw3, ap, cp, rfl, zp⟩
    have mp : Hid (At w3 _ _) := zp
    clear zp
    have taw3 := Tb.mono taw2 hw3 (by simp)
    have tbw3 := Tb.mono tbw2 hw3 (by simp)
    have Uw3 : Hid _ := Upd.trans (Hid.out Uw2) hw3
    clear hw3 taw2 tbw2 Uw2
    go_wp2_with (first | (refine load_G _ _ rfl _ _ rfl (taw3.old _) rfl rfl ?_) | (refine load_G _ _ rfl _ _ rfl (tbw3.old _) rfl rfl ?_) | (refine load_G _ _ rfl _ _ rfl (Tb.new w3 _ _ rfl) rfl rfl ?_))
    refine (Hid.out HT2 _ (Upd.alloc (Hid.out Uw3) _)).mono ?_
    rintro e w4 ⟨hw4, ad, cd, rfl, zd⟩
    have md : Hid (At w4 _ _) := zd
    clear zd
    have Xw4 := ((Upd.refl [] w3).alloc _).trans hw4
    have mpw4 : Hid (At w4 _ _) := At.mono (Hid.out mp) Xw4
    clear Xw4 mp
    have Vw4 := ((Upd.refl [] w3).alloc _).trans hw4
    have taw4 := Tb.mono (taw3.old _) hw4 (by simp)
    have tbw4 := Tb.mono (tbw3.old _) hw4 (by simp)
    have tpw4 := Tb.mono (Tb.new w3 #[.int .u8 K1, .bool p1, .slice ap P.length cp, .string ⟨#[]⟩, .int .i64 0, .slice none 0 0, .slice none 0 0] _ rfl) hw4 (by simp)
    have Uw4 : Hid _ := Upd.trans (Hid.out Uw3) Vw4
    clear hw4 Vw4 taw3 tbw3 Uw3
    go_wp2_with (first | (refine load_G _ _ rfl _ _ rfl (taw4.old _) rfl rfl ?_) | (refine load_G _ _ rfl _ _ rfl (tbw4.old _) rfl rfl ?_) | (refine load_G _ _ rfl _ _ rfl (tpw4.old _) rfl rfl ?_) | (refine load_G _ _ rfl _ _ rfl (Tb.new w4 _ _ rfl) rfl rfl ?_))
    refine (Hid.out HD1 _ (Upd.alloc (Hid.out Uw4) _)).mono ?_
    rintro e w5 ⟨hw5, aq, cq, ar, cr, rfl, zq, zr⟩
    have mq : Hid (At w5 _ _) := zq
    have mr : Hid (At w5 _ _) := zr
    clear zq zr
    have Xw5 := ((Upd.refl [] w4).alloc _).trans hw5
    have mpw5 : Hid (At w5 _ _) := At.mono (Hid.out mpw4) Xw5
    have mdw5 : Hid (At w5 _ _) := At.mono (Hid.out md) Xw5
    clear Xw5 mpw4 md
    have Vw5 := ((Upd.refl [] w4).alloc _).trans hw5
    have taw5 := Tb.mono (taw4.old _) hw5 (by simp)
    have tbw5 := Tb.mono (tbw4.old _) hw5 (by simp)
    have tpw5 := Tb.mono (tpw4.old _) hw5 (by simp)
    have tdw5 := Tb.mono (Tb.new w4 #[.int .u8 K1, .bool p1, .slice ad P.length cd, .string ⟨#[]⟩, .int .i64 0, .slice none 0 0, .slice none 0 0] _ rfl) hw5 (by simp)
    have Uw5 : Hid _ := Upd.trans (Hid.out Uw4) Vw5
    clear hw5 Vw5 taw4 tbw4 tpw4 Uw4
    go_wp2_with (first | (refine load_G _ _ rfl _ _ rfl ((taw5.old _).old _) rfl rfl ?_) | (refine load_G _ _ rfl _ _ rfl ((tbw5.old _).old _) rfl rfl ?_) | (refine load_G _ _ rfl _ _ rfl ((tpw5.old _).old _) rfl rfl ?_) | (refine load_G _ _ rfl _ _ rfl ((tdw5.old _).old _) rfl rfl ?_) | (refine load_G _ _ rfl _ _ rfl ((Tb.new w5 _ _ rfl).old _) rfl rfl ?_) | (refine load_G _ _ rfl _ _ rfl (Tb.new (w5.alloc _) _ _ (by simp)) rfl rfl ?_))
    refine (Hid.out HD2 _ (Upd.alloc (Upd.alloc (Hid.out Uw5) _) _)).mono ?_
    rintro e w6 ⟨hw6, au, cu, av, cv, rfl, zu, zv⟩
    have mu : Hid (At w6 _ _) := zu
    have mv : Hid (At w6 _ _) := zv
    clear zu zv
    have Xw6 := (((Upd.refl [] w5).alloc _).alloc _).trans hw6
    have mpw6 : Hid (At w6 _ _) := At.mono (Hid.out mpw5) Xw6
    have mdw6 : Hid (At w6 _ _) := At.mono (Hid.out mdw5) Xw6
    have mqw6 : Hid (At w6 _ _) := At.mono (Hid.out mq) Xw6
    have mrw6 : Hid (At w6 _ _) := At.mono (Hid.out mr) Xw6
    clear Xw6 mpw5 mdw5 mq mr
    have Vw6 := (((Upd.refl [] w5).alloc _).alloc _).trans hw6
    have taw6 := Tb.mono ((taw5.old _).old _) hw6 (by simp)
    have tbw6 := Tb.mono ((tbw5.old _).old _) hw6 (by simp)
    have tpw6 := Tb.mono ((tpw5.old _).old _) hw6 (by simp)
    have tdw6 := Tb.mono ((tdw5.old _).old _) hw6 (by simp)
    have tqw6 := Tb.mono ((Tb.new w5 #[.int .u8 K2, .bool p2, .slice aq L.length cq, .string ⟨#[]⟩, .int .i64 0, .slice none 0 0, .slice none 0 0] _ rfl).old _) hw6 (by simp)
    have trw6 := Tb.mono (Tb.new (w5.alloc _) #[.int .u8 K2, .bool p3, .slice ar M.length cr, .string ⟨#[]⟩, .int .i64 0, .slice none 0 0, .slice none 0 0] (w5.heap.size + 1) (by simp)) hw6 (by simp)
    have Uw6 : Hid _ := Upd.trans (Hid.out Uw5) Vw6
    clear hw6 Vw6 taw5 tbw5 tpw5 tdw5 Uw5
    go_wp2_with (first | (refine load_G _ _ rfl _ _ rfl ((taw6.old _).old _) rfl rfl ?_) | (refine load_G _ _ rfl _ _ rfl ((tbw6.old _).old _) rfl rfl ?_) | (refine load_G _ _ rfl _ _ rfl ((tpw6.old _).old _) rfl rfl ?_) | (refine load_G _ _ rfl _ _ rfl ((tdw6.old _).old _) rfl rfl ?_) | (refine load_G _ _ rfl _ _ rfl ((tqw6.old _).old _) rfl rfl ?_) | (refine load_G _ _ rfl _ _ rfl ((trw6.old _).old _) rfl rfl ?_) | (refine load_G _ _ rfl _ _ rfl ((Tb.new w6 _ _ rfl).old _) rfl rfl ?_) | (refine load_G _ _ rfl _ _ rfl (Tb.new (w6.alloc _) _ _ (by simp)) rfl rfl ?_))
    refine (SameTerm_same K1 p1 ap none none ad none none cp 0 0 cd 0 0 P _ (by omega) (At.mono (Hid.out mpw6) (((Upd.refl [] w6).alloc _).alloc _)) (At.mono (Hid.out mdw6) (((Upd.refl [] w6).alloc _).alloc _))).mono ?_
    rintro e w7 ⟨rfl, hw7⟩
    have Xw7 := (((Upd.refl [] w6).alloc _).alloc _).trans hw7
    have mpw7 : Hid (At w7 _ _) := At.mono (Hid.out mpw6) Xw7
    have mdw7 : Hid (At w7 _ _) := At.mono (Hid.out mdw6) Xw7
    have mqw7 : Hid (At w7 _ _) := At.mono (Hid.out mqw6) Xw7
    have mrw7 : Hid (At w7 _ _) := At.mono (Hid.out mrw6) Xw7
    have muw7 : Hid (At w7 _ _) := At.mono (Hid.out mu) Xw7
    have mvw7 : Hid (At w7 _ _) := At.mono (Hid.out mv) Xw7
    clear Xw7 mpw6 mdw6 mqw6 mrw6 mu mv
    have Vw7 := (((Upd.refl [] w6).alloc _).alloc _).trans hw7
    have taw7 := Tb.mono ((taw6.old _).old _) hw7 (by simp)
    have tbw7 := Tb.mono ((tbw6.old _).old _) hw7 (by simp)
    have tpw7 := Tb.mono ((tpw6.old _).old _) hw7 (by simp)
    have tdw7 := Tb.mono ((tdw6.old _).old _) hw7 (by simp)
    have tqw7 := Tb.mono ((tqw6.old _).old _) hw7 (by simp)
    have trw7 := Tb.mono ((trw6.old _).old _) hw7 (by simp)
    have tuw7 := Tb.mono ((Tb.new w6 #[.int .u8 K2, .bool p2, .slice au L.length cu, .string ⟨#[]⟩, .int .i64 0, .slice none 0 0, .slice none 0 0] _ rfl).old _) hw7 (by simp)
    have tvw7 := Tb.mono (Tb.new (w6.alloc _) #[.int .u8 K2, .bool p3, .slice av M.length cv, .string ⟨#[]⟩, .int .i64 0, .slice none 0 0, .slice none 0 0] (w6.heap.size + 1) (by simp)) hw7 (by simp)
    have Uw7 : Hid _ := Upd.trans (Hid.out Uw6) Vw7
    clear hw7 Vw7 taw6 tbw6 tpw6 tdw6 tqw6 trw6 Uw6
    go_wp2_with (first | (refine load_G _ _ rfl _ _ rfl taw7 rfl rfl ?_) | (refine load_G _ _ rfl _ _ rfl tbw7 rfl rfl ?_) | (refine load_G _ _ rfl _ _ rfl tpw7 rfl rfl ?_) | (refine load_G _ _ rfl _ _ rfl tdw7 rfl rfl ?_) | (refine load_G _ _ rfl _ _ rfl tqw7 rfl rfl ?_) | (refine load_G _ _ rfl _ _ rfl trw7 rfl rfl ?_) | (refine load_G _ _ rfl _ _ rfl tuw7 rfl rfl ?_) | (refine load_G _ _ rfl _ _ rfl tvw7 rfl rfl ?_))
    refine (SameTerm_same K2 p2 aq none none au none none cq 0 0 cu 0 0 L _ (by omega) (Hid.out mqw7) (Hid.out muw7)).mono ?_
    rintro e w8 ⟨rfl, hw8⟩
    have Xw8 := (Upd.refl [] w7).trans hw8
    have mpw8 : Hid (At w8 _ _) := At.mono (Hid.out mpw7) Xw8
    have mdw8 : Hid (At w8 _ _) := At.mono (Hid.out mdw7) Xw8
    have mqw8 : Hid (At w8 _ _) := At.mono (Hid.out mqw7) Xw8
    have mrw8 : Hid (At w8 _ _) := At.mono (Hid.out mrw7) Xw8
    have muw8 : Hid (At w8 _ _) := At.mono (Hid.out muw7) Xw8
    have mvw8 : Hid (At w8 _ _) := At.mono (Hid.out mvw7) Xw8
    clear Xw8 mpw7 mdw7 mqw7 mrw7 muw7 mvw7
    have taw8 := Tb.mono taw7 hw8 (by simp)
    have tbw8 := Tb.mono tbw7 hw8 (by simp)
    have tpw8 := Tb.mono tpw7 hw8 (by simp)
    have tdw8 := Tb.mono tdw7 hw8 (by simp)
    have tqw8 := Tb.mono tqw7 hw8 (by simp)
    have trw8 := Tb.mono trw7 hw8 (by simp)
    have tuw8 := Tb.mono tuw7 hw8 (by simp)
    have tvw8 := Tb.mono tvw7 hw8 (by simp)
    have Uw8 : Hid _ := Upd.trans (Hid.out Uw7) hw8
    clear hw8 taw7 tbw7 tpw7 tdw7 tqw7 trw7 tuw7 tvw7 Uw7
    go_wp2_with (first | (refine load_G _ _ rfl _ _ rfl taw8 rfl rfl ?_) | (refine load_G _ _ rfl _ _ rfl tbw8 rfl rfl ?_) | (refine load_G _ _ rfl _ _ rfl tpw8 rfl rfl ?_) | (refine load_G _ _ rfl _ _ rfl tdw8 rfl rfl ?_) | (refine load_G _ _ rfl _ _ rfl tqw8 rfl rfl ?_) | (refine load_G _ _ rfl _ _ rfl trw8 rfl rfl ?_) | (refine load_G _ _ rfl _ _ rfl tuw8 rfl rfl ?_) | (refine load_G _ _ rfl _ _ rfl tvw8 rfl rfl ?_))
    refine (SameTerm_same K2 p3 ar none none av none none cr 0 0 cv 0 0 M _ (by omega) (Hid.out mrw8) (Hid.out mvw8)).mono ?_
    rintro e w9 ⟨rfl, hw9⟩
    have Xw9 := (Upd.refl [] w8).trans hw9
    have mpw9 : Hid (At w9 _ _) := At.mono (Hid.out mpw8) Xw9
    have mdw9 : Hid (At w9 _ _) := At.mono (Hid.out mdw8) Xw9
    have mqw9 : Hid (At w9 _ _) := At.mono (Hid.out mqw8) Xw9
    have mrw9 : Hid (At w9 _ _) := At.mono (Hid.out mrw8) Xw9
    have muw9 : Hid (At w9 _ _) := At.mono (Hid.out muw8) Xw9
    have mvw9 : Hid (At w9 _ _) := At.mono (Hid.out mvw8) Xw9
    clear Xw9 mpw8 mdw8 mqw8 mrw8 muw8 mvw8
    have taw9 := Tb.mono taw8 hw9 (by simp)
    have tbw9 := Tb.mono tbw8 hw9 (by simp)
    have tpw9 := Tb.mono tpw8 hw9 (by simp)
    have tdw9 := Tb.mono tdw8 hw9 (by simp)
    have tqw9 := Tb.mono tqw8 hw9 (by simp)
    have trw9 := Tb.mono trw8 hw9 (by simp)
    have tuw9 := Tb.mono tuw8 hw9 (by simp)
    have tvw9 := Tb.mono tvw8 hw9 (by simp)
    have Uw9 : Hid _ := Upd.trans (Hid.out Uw8) hw9
    clear hw9 taw8 tbw8 tpw8 tdw8 tqw8 trw8 tuw8 tvw8 Uw8
    go_wp2
    go_ret
    exact ⟨rfl, Hid.out Uw9⟩

/-- WholeProducts answers true, of whatever terms. -/
theorem WholeProducts_walk : WholeProductsWalk := by
  intro k0 num0 neg0 a0 ai0 at0 L0 c0 ni0 ci0 nt0 ct0 s0 k1 num1 neg1 a1 ai1 at1 L1 c1 ni1 ci1 nt1 ct1 s1 W hA0 hD0 hl0 hi0 ht0 hA1 hD1 hl1 hi1 ht1
  obtain ⟨K1, p1, P, o1, hP, h1, h2⟩ := times_pair k0 num0 k1 num1 neg0 neg1 L0 L1 s0 s1 a0 ai0 at0 a1 ai1 at1 c0 ni0 ci0 nt0 ct0 c1 ni1 ci1 nt1 ct1 W hl0 hA0 hi0 ht0 hl1 hA1 hi1 ht1 hD0 hD1
  obtain ⟨K2, p2, p3, L, M, o2, hL, hM, h3, h4⟩ := div_pair k0 num0 k1 num1 neg0 neg1 L0 L1 s0 s1 a0 ai0 at0 a1 ai1 at1 c0 ni0 ci0 nt0 ct0 c1 ni1 ci1 nt1 ct1 W hl0 hA0 hi0 ht0 hl1 hA1 hi1 ht1 hD0 hD1
  exact WholeProducts_core k0 num0 neg0 a0 ai0 at0 L0 c0 ni0 ci0 nt0 ct0 s0 k1 num1 neg1 a1 ai1 at1 L1 c1 ni1 ci1 nt1 ct1 s1 W K1 K2 p1 p2 p3 P L M o1 o2 hP hL hM h1 h2 h3 h4

/-- The card. -/
theorem wholeProducts_card_holds : Rows.WholeProductsCardSaid := wholeProducts_card WholeProducts_walk

end Go.Proofs.YtpeganecbjefoaaDoor
