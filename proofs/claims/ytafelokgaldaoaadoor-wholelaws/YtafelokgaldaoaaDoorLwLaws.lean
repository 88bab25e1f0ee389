/- WholeLaws, walked. -/
import Derived.Test.YtafelokgaldaoaaDoorLawB
import Derived.Test.YtafelokgaldaoaaDoorFrLaws
namespace Go.Proofs.YtafelokgaldaoaaDoor
open Go.RowKit

set_option maxHeartbeats 8000000 in
set_option maxRecDepth 100000 in
theorem WholeLaws_right (neg0 : Bool) (a0 ai0 at0 : Option Addr) (L0 : List Nat) (c0 ci0 ct0 : Nat) (z0 : Int) (neg1 : Bool) (a1 ai1 at1 : Option Addr) (L1 : List Nat) (c1 ci1 ct1 : Nat) (z1 : Int) (neg2 : Bool) (a2 ai2 at2 : Option Addr) (L2 : List Nat) (c2 ci2 ct2 : Nat) (z2 : Int) (w : World) (T0' : TI w neg0 a0 L0 z0) (T1' : TI w neg1 a1 L1 z1) (T2' : TI w neg2 a2 L2 z2) :
    Calls Tryd.prog 7 #[.agg #[.int .u8 1, .bool neg0, .slice a0 L0.length c0, .string ⟨#[]⟩, .int .i64 0, .slice ai0 0 ci0, .slice at0 0 ct0], .agg #[.int .u8 1, .bool neg1, .slice a1 L1.length c1, .string ⟨#[]⟩, .int .i64 0, .slice ai1 0 ci1, .slice at1 0 ct1], .agg #[.int .u8 1, .bool neg2, .slice a2 L2.length c2, .string ⟨#[]⟩, .int .i64 0, .slice ai2 0 ci2, .slice at2 0 ct2]] w fun e w' => e = .returned (.bool true) ∧ Upd [] w w' := by
  have T0 : Hid _ := T0'
  have T1 : Hid _ := T1'
  have T2 : Hid _ := T2'
  clear T0' T1' T2'
  go_enter Tryd.func7, Tryd.ntmps7
  go_wp2_with fail
  refine (awake_any _).mono ?_
  rintro e w1 ⟨rfl, hw1⟩
  have V1 := ((((Upd.refl [] w).alloc _).alloc _).alloc _).trans hw1
  have ta1 := Tb.mono (((Tb.new w #[.int .u8 1, .bool neg0, .slice a0 L0.length c0, .string ⟨#[]⟩, .int .i64 0, .slice ai0 0 ci0, .slice at0 0 ct0] _ rfl).old _).old _) hw1 (by simp)
  have tb1 := Tb.mono ((Tb.new (w.alloc _) #[.int .u8 1, .bool neg1, .slice a1 L1.length c1, .string ⟨#[]⟩, .int .i64 0, .slice ai1 0 ci1, .slice at1 0 ct1] (w.heap.size + 1) (by simp)).old _) hw1 (by simp)
  have tc1 := Tb.mono (Tb.new ((w.alloc _).alloc _) #[.int .u8 1, .bool neg2, .slice a2 L2.length c2, .string ⟨#[]⟩, .int .i64 0, .slice ai2 0 ci2, .slice at2 0 ct2] (w.heap.size + 1 + 1) (by simp)) hw1 (by simp)
  have ia1 : Hid _ := TI.mono (Hid.out T0) V1
  have ib1 : Hid _ := TI.mono (Hid.out T1) V1
  have ic1 : Hid _ := TI.mono (Hid.out T2) V1
  have U1 : Hid _ := V1
  clear V1 hw1
  go_wp2_with (first | (refine load_G _ _ rfl _ _ rfl ta1 rfl rfl ?_) | (refine load_G _ _ rfl _ _ rfl tb1 rfl rfl ?_) | (refine load_G _ _ rfl _ _ rfl tc1 rfl rfl ?_))
  refine (TI.rightU (Hid.out ia1) ai0 at0 c0 ci0 ct0).mono ?_
  rintro e w2 ⟨rfl, hw2⟩
  have taw2 := Tb.mono ta1 hw2 (by simp)
  have tbw2 := Tb.mono tb1 hw2 (by simp)
  have tcw2 := Tb.mono tc1 hw2 (by simp)
  have iaw2 : Hid _ := TI.mono (Hid.out ia1) hw2
  have ibw2 : Hid _ := TI.mono (Hid.out ib1) hw2
  have icw2 : Hid _ := TI.mono (Hid.out ic1) hw2
  have Uw2 : Hid _ := Upd.trans (Hid.out U1) hw2
  clear hw2 ta1 tb1 tc1 ia1 ib1 ic1 U1
  go_wp2_with (first | (refine load_G _ _ rfl _ _ rfl taw2 rfl rfl ?_) | (refine load_G _ _ rfl _ _ rfl tbw2 rfl rfl ?_) | (refine load_G _ _ rfl _ _ rfl tcw2 rfl rfl ?_))
  refine (TI.rightU (Hid.out ibw2) ai1 at1 c1 ci1 ct1).mono ?_
  rintro e w3 ⟨rfl, hw3⟩
  have taw3 := Tb.mono taw2 hw3 (by simp)
  have tbw3 := Tb.mono tbw2 hw3 (by simp)
  have tcw3 := Tb.mono tcw2 hw3 (by simp)
  have iaw3 : Hid _ := TI.mono (Hid.out iaw2) hw3
  have ibw3 : Hid _ := TI.mono (Hid.out ibw2) hw3
  have icw3 : Hid _ := TI.mono (Hid.out icw2) hw3
  have Uw3 : Hid _ := Upd.trans (Hid.out Uw2) hw3
  clear hw3 taw2 tbw2 tcw2 iaw2 ibw2 icw2 Uw2
  go_wp2_with (first | (refine load_G _ _ rfl _ _ rfl taw3 rfl rfl ?_) | (refine load_G _ _ rfl _ _ rfl tbw3 rfl rfl ?_) | (refine load_G _ _ rfl _ _ rfl tcw3 rfl rfl ?_))
  refine (TI.rightU (Hid.out icw3) ai2 at2 c2 ci2 ct2).mono ?_
  rintro e w4 ⟨rfl, hw4⟩
  have taw4 := Tb.mono taw3 hw4 (by simp)
  have tbw4 := Tb.mono tbw3 hw4 (by simp)
  have tcw4 := Tb.mono tcw3 hw4 (by simp)
  have iaw4 : Hid _ := TI.mono (Hid.out iaw3) hw4
  have ibw4 : Hid _ := TI.mono (Hid.out ibw3) hw4
  have icw4 : Hid _ := TI.mono (Hid.out icw3) hw4
  have Uw4 : Hid _ := Upd.trans (Hid.out Uw3) hw4
  clear hw4 taw3 tbw3 tcw3 iaw3 ibw3 icw3 Uw3
  go_wp2_with (first | (refine load_G _ _ rfl _ _ rfl taw4 rfl rfl ?_) | (refine load_G _ _ rfl _ _ rfl tbw4 rfl rfl ?_) | (refine load_G _ _ rfl _ _ rfl tcw4 rfl rfl ?_))
  refine (Add_any a0 ai0 at0 a1 ai1 at1 c0 ci0 ct0 c1 ci1 ct1 neg0 neg1 L0 L1 _ _ _ (Hid.out iaw4) (Hid.out ibw4)).mono ?_
  rintro e w5 ⟨hR, hw5⟩
  rcases hR with ⟨hs1, gS, aS, cS, MS, rfl, Ts⟩ | ⟨hs1, rfl⟩
  · have iss : Hid _ := Ts
    clear Ts
    have taw5 := Tb.mono taw4 hw5 (by simp)
    have tbw5 := Tb.mono tbw4 hw5 (by simp)
    have tcw5 := Tb.mono tcw4 hw5 (by simp)
    have iaw5 : Hid _ := TI.mono (Hid.out iaw4) hw5
    have ibw5 : Hid _ := TI.mono (Hid.out ibw4) hw5
    have icw5 : Hid _ := TI.mono (Hid.out icw4) hw5
    have Uw5 : Hid _ := Upd.trans (Hid.out Uw4) hw5
    clear hw5 taw4 tbw4 tcw4 iaw4 ibw4 icw4 Uw4
    go_wp2_with (first | (refine load_G _ _ rfl _ _ rfl (taw5.old _) rfl rfl ?_) | (refine load_G _ _ rfl _ _ rfl (tbw5.old _) rfl rfl ?_) | (refine load_G _ _ rfl _ _ rfl (tcw5.old _) rfl rfl ?_) | (refine load_G _ _ rfl _ _ rfl (Tb.new w5 _ _ rfl) rfl rfl ?_))
    refine (Add_any a1 ai1 at1 a0 ai0 at0 c1 ci1 ct1 c0 ci0 ct0 neg1 neg0 L1 L0 _ _ _ (TI.mono (Hid.out ibw5) ((Upd.refl [] w5).alloc _)) (TI.mono (Hid.out iaw5) ((Upd.refl [] w5).alloc _))).mono ?_
    rintro e w6 ⟨hR, hw6⟩
    rw [Int.add_comm z1 z0] at hR
    obtain ⟨_, gt, at_, ct_, Mt, rfl, Tt⟩ := hR.resolve_right (fun h => h.1 hs1)
    have itt : Hid _ := Tt
    clear Tt hR
    have Vw6 := ((Upd.refl [] w5).alloc _).trans hw6
    have taw6 := Tb.mono (taw5.old _) hw6 (by simp)
    have tbw6 := Tb.mono (tbw5.old _) hw6 (by simp)
    have tcw6 := Tb.mono (tcw5.old _) hw6 (by simp)
    have tsw6 := Tb.mono (Tb.new w5 #[.int .u8 1, .bool gS, .slice aS MS.length cS, .string ⟨#[]⟩, .int .i64 0, .slice none 0 0, .slice none 0 0] _ rfl) hw6 (by simp)
    have iaw6 : Hid _ := TI.mono (Hid.out iaw5) Vw6
    have ibw6 : Hid _ := TI.mono (Hid.out ibw5) Vw6
    have icw6 : Hid _ := TI.mono (Hid.out icw5) Vw6
    have isw6 : Hid _ := TI.mono (Hid.out iss) Vw6
    have Uw6 : Hid _ := Upd.trans (Hid.out Uw5) Vw6
    clear hw6 Vw6 taw5 tbw5 tcw5 iaw5 ibw5 icw5 iss Uw5
    go_wp2_with (first | (refine load_G _ _ rfl _ _ rfl (taw6.old _) rfl rfl ?_) | (refine load_G _ _ rfl _ _ rfl (tbw6.old _) rfl rfl ?_) | (refine load_G _ _ rfl _ _ rfl (tcw6.old _) rfl rfl ?_) | (refine load_G _ _ rfl _ _ rfl (tsw6.old _) rfl rfl ?_) | (refine load_G _ _ rfl _ _ rfl (Tb.new w6 _ _ rfl) rfl rfl ?_))
    refine (Times_any a0 ai0 at0 a1 ai1 at1 c0 ci0 ct0 c1 ci1 ct1 neg0 neg1 L0 L1 _ _ _ (TI.mono (Hid.out iaw6) ((Upd.refl [] w6).alloc _)) (TI.mono (Hid.out ibw6) ((Upd.refl [] w6).alloc _))).mono ?_
    rintro e w7 ⟨hR, hw7⟩
    rcases hR with ⟨hs2, gp, ap, cp, Mp, rfl, Tp⟩ | ⟨hs2, rfl⟩
    · have ip : Hid _ := Tp
      clear Tp
      have Vw7 := ((Upd.refl [] w6).alloc _).trans hw7
      have taw7 := Tb.mono (taw6.old _) hw7 (by simp)
      have tbw7 := Tb.mono (tbw6.old _) hw7 (by simp)
      have tcw7 := Tb.mono (tcw6.old _) hw7 (by simp)
      have tsw7 := Tb.mono (tsw6.old _) hw7 (by simp)
      have ttw7 := Tb.mono (Tb.new w6 #[.int .u8 1, .bool gt, .slice at_ Mt.length ct_, .string ⟨#[]⟩, .int .i64 0, .slice none 0 0, .slice none 0 0] _ rfl) hw7 (by simp)
      have iaw7 : Hid _ := TI.mono (Hid.out iaw6) Vw7
      have ibw7 : Hid _ := TI.mono (Hid.out ibw6) Vw7
      have icw7 : Hid _ := TI.mono (Hid.out icw6) Vw7
      have isw7 : Hid _ := TI.mono (Hid.out isw6) Vw7
      have itw7 : Hid _ := TI.mono (Hid.out itt) Vw7
      have Uw7 : Hid _ := Upd.trans (Hid.out Uw6) Vw7
      clear hw7 Vw7 taw6 tbw6 tcw6 tsw6 iaw6 ibw6 icw6 isw6 itt Uw6
      go_wp2_with (first | (refine load_G _ _ rfl _ _ rfl (taw7.old _) rfl rfl ?_) | (refine load_G _ _ rfl _ _ rfl (tbw7.old _) rfl rfl ?_) | (refine load_G _ _ rfl _ _ rfl (tcw7.old _) rfl rfl ?_) | (refine load_G _ _ rfl _ _ rfl (tsw7.old _) rfl rfl ?_) | (refine load_G _ _ rfl _ _ rfl (ttw7.old _) rfl rfl ?_) | (refine load_G _ _ rfl _ _ rfl (Tb.new w7 _ _ rfl) rfl rfl ?_))
      refine (Times_any a1 ai1 at1 a0 ai0 at0 c1 ci1 ct1 c0 ci0 ct0 neg1 neg0 L1 L0 _ _ _ (TI.mono (Hid.out ibw7) ((Upd.refl [] w7).alloc _)) (TI.mono (Hid.out iaw7) ((Upd.refl [] w7).alloc _))).mono ?_
      rintro e w8 ⟨hR, hw8⟩
      rw [Int.mul_comm z1 z0] at hR
      obtain ⟨_, gq, aq, cq, Mq, rfl, Tq⟩ := hR.resolve_right (fun h => h.1 hs2)
      have iq : Hid _ := Tq
      clear Tq hR hs2
      have Vw8 := ((Upd.refl [] w7).alloc _).trans hw8
      have taw8 := Tb.mono (taw7.old _) hw8 (by simp)
      have tbw8 := Tb.mono (tbw7.old _) hw8 (by simp)
      have tcw8 := Tb.mono (tcw7.old _) hw8 (by simp)
      have tsw8 := Tb.mono (tsw7.old _) hw8 (by simp)
      have ttw8 := Tb.mono (ttw7.old _) hw8 (by simp)
      have tpw8 := Tb.mono (Tb.new w7 #[.int .u8 1, .bool gp, .slice ap Mp.length cp, .string ⟨#[]⟩, .int .i64 0, .slice none 0 0, .slice none 0 0] _ rfl) hw8 (by simp)
      have iaw8 : Hid _ := TI.mono (Hid.out iaw7) Vw8
      have ibw8 : Hid _ := TI.mono (Hid.out ibw7) Vw8
      have icw8 : Hid _ := TI.mono (Hid.out icw7) Vw8
      have isw8 : Hid _ := TI.mono (Hid.out isw7) Vw8
      have itw8 : Hid _ := TI.mono (Hid.out itw7) Vw8
      have ipw8 : Hid _ := TI.mono (Hid.out ip) Vw8
      have Uw8 : Hid _ := Upd.trans (Hid.out Uw7) Vw8
      clear hw8 Vw8 taw7 tbw7 tcw7 tsw7 ttw7 iaw7 ibw7 icw7 isw7 itw7 ip Uw7
      go_wp2_with (first | (refine load_G _ _ rfl _ _ rfl (taw8.old _) rfl rfl ?_) | (refine load_G _ _ rfl _ _ rfl (tbw8.old _) rfl rfl ?_) | (refine load_G _ _ rfl _ _ rfl (tcw8.old _) rfl rfl ?_) | (refine load_G _ _ rfl _ _ rfl (tsw8.old _) rfl rfl ?_) | (refine load_G _ _ rfl _ _ rfl (ttw8.old _) rfl rfl ?_) | (refine load_G _ _ rfl _ _ rfl (tpw8.old _) rfl rfl ?_) | (refine load_G _ _ rfl _ _ rfl (Tb.new w8 _ _ rfl) rfl rfl ?_))
      refine (Compare_any aS none none at_ none none cS 0 0 ct_ 0 0 gS gt MS Mt _ _ _ (TI.mono (Hid.out isw8) ((Upd.refl [] w8).alloc _)) (TI.mono (Hid.out itw8) ((Upd.refl [] w8).alloc _))).mono ?_
      rintro e w9 ⟨rfl, hw9⟩
      rw [show cmpZ (z0 + z1) (z0 + z1) = 0 by unfold cmpZ; simp]
      have Vw9 := ((Upd.refl [] w8).alloc _).trans hw9
      have taw9 := Tb.mono (taw8.old _) hw9 (by simp)
      have tbw9 := Tb.mono (tbw8.old _) hw9 (by simp)
      have tcw9 := Tb.mono (tcw8.old _) hw9 (by simp)
      have tsw9 := Tb.mono (tsw8.old _) hw9 (by simp)
      have ttw9 := Tb.mono (ttw8.old _) hw9 (by simp)
      have tpw9 := Tb.mono (tpw8.old _) hw9 (by simp)
      have tqw9 := Tb.mono (Tb.new w8 #[.int .u8 1, .bool gq, .slice aq Mq.length cq, .string ⟨#[]⟩, .int .i64 0, .slice none 0 0, .slice none 0 0] _ rfl) hw9 (by simp)
      have iaw9 : Hid _ := TI.mono (Hid.out iaw8) Vw9
      have ibw9 : Hid _ := TI.mono (Hid.out ibw8) Vw9
      have icw9 : Hid _ := TI.mono (Hid.out icw8) Vw9
      have isw9 : Hid _ := TI.mono (Hid.out isw8) Vw9
      have itw9 : Hid _ := TI.mono (Hid.out itw8) Vw9
      have ipw9 : Hid _ := TI.mono (Hid.out ipw8) Vw9
      have iqw9 : Hid _ := TI.mono (Hid.out iq) Vw9
      have Uw9 : Hid _ := Upd.trans (Hid.out Uw8) Vw9
      clear hw9 Vw9 taw8 tbw8 tcw8 tsw8 ttw8 tpw8 iaw8 ibw8 icw8 isw8 itw8 ipw8 iq Uw8
      go_wp2_with (first | (refine load_G _ _ rfl _ _ rfl taw9 rfl rfl ?_) | (refine load_G _ _ rfl _ _ rfl tbw9 rfl rfl ?_) | (refine load_G _ _ rfl _ _ rfl tcw9 rfl rfl ?_) | (refine load_G _ _ rfl _ _ rfl tsw9 rfl rfl ?_) | (refine load_G _ _ rfl _ _ rfl ttw9 rfl rfl ?_) | (refine load_G _ _ rfl _ _ rfl tpw9 rfl rfl ?_) | (refine load_G _ _ rfl _ _ rfl tqw9 rfl rfl ?_))
      refine (Compare_any ap none none aq none none cp 0 0 cq 0 0 gp gq Mp Mq _ _ _ (Hid.out ipw9) (Hid.out iqw9)).mono ?_
      rintro e w10 ⟨rfl, hw10⟩
      rw [show cmpZ (z0 * z1) (z0 * z1) = 0 by unfold cmpZ; simp]
      have taw10 := Tb.mono taw9 hw10 (by simp)
      have tbw10 := Tb.mono tbw9 hw10 (by simp)
      have tcw10 := Tb.mono tcw9 hw10 (by simp)
      have tsw10 := Tb.mono tsw9 hw10 (by simp)
      have ttw10 := Tb.mono ttw9 hw10 (by simp)
      have tpw10 := Tb.mono tpw9 hw10 (by simp)
      have tqw10 := Tb.mono tqw9 hw10 (by simp)
      have iaw10 : Hid _ := TI.mono (Hid.out iaw9) hw10
      have ibw10 : Hid _ := TI.mono (Hid.out ibw9) hw10
      have icw10 : Hid _ := TI.mono (Hid.out icw9) hw10
      have isw10 : Hid _ := TI.mono (Hid.out isw9) hw10
      have itw10 : Hid _ := TI.mono (Hid.out itw9) hw10
      have ipw10 : Hid _ := TI.mono (Hid.out ipw9) hw10
      have iqw10 : Hid _ := TI.mono (Hid.out iqw9) hw10
      have Uw10 : Hid _ := Upd.trans (Hid.out Uw9) hw10
      clear hw10 taw9 tbw9 tcw9 tsw9 ttw9 tpw9 tqw9 iaw9 ibw9 icw9 isw9 itw9 ipw9 iqw9 Uw9
      clear tpw10 ipw10 tqw10 iqw10 ttw10 itw10
      go_wp2_with (first | (refine load_G _ _ rfl _ _ rfl taw10 rfl rfl ?_) | (refine load_G _ _ rfl _ _ rfl tbw10 rfl rfl ?_) | (refine load_G _ _ rfl _ _ rfl tcw10 rfl rfl ?_) | (refine load_G _ _ rfl _ _ rfl tsw10 rfl rfl ?_))
      refine (Sub_any aS none none a1 ai1 at1 cS 0 0 c1 ci1 ct1 gS neg1 MS L1 _ _ _ (Hid.out isw10) (Hid.out ibw10)).mono ?_
      rintro e w11 ⟨hR, hw11⟩
      rw [Int.add_sub_cancel] at hR
      obtain ⟨_, gd, ad, cd, Md, rfl, Td⟩ := hR.resolve_right (fun h => h.1 (Hid.out iaw10).small)
      have idd : Hid _ := Td
      clear Td hR
      have taw11 := Tb.mono taw10 hw11 (by simp)
      have tbw11 := Tb.mono tbw10 hw11 (by simp)
      have tcw11 := Tb.mono tcw10 hw11 (by simp)
      have tsw11 := Tb.mono tsw10 hw11 (by simp)
      have iaw11 : Hid _ := TI.mono (Hid.out iaw10) hw11
      have ibw11 : Hid _ := TI.mono (Hid.out ibw10) hw11
      have icw11 : Hid _ := TI.mono (Hid.out icw10) hw11
      have isw11 : Hid _ := TI.mono (Hid.out isw10) hw11
      have Uw11 : Hid _ := Upd.trans (Hid.out Uw10) hw11
      clear hw11 taw10 tbw10 tcw10 tsw10 iaw10 ibw10 icw10 isw10 Uw10
      go_wp2_with (first | (refine load_G _ _ rfl _ _ rfl (taw11.old _) rfl rfl ?_) | (refine load_G _ _ rfl _ _ rfl (tbw11.old _) rfl rfl ?_) | (refine load_G _ _ rfl _ _ rfl (tcw11.old _) rfl rfl ?_) | (refine load_G _ _ rfl _ _ rfl (tsw11.old _) rfl rfl ?_) | (refine load_G _ _ rfl _ _ rfl (Tb.new w11 _ _ rfl) rfl rfl ?_))
      refine (Compare_any ad none none a0 ai0 at0 cd 0 0 c0 ci0 ct0 gd neg0 Md L0 _ _ _ (TI.mono (Hid.out idd) ((Upd.refl [] w11).alloc _)) (TI.mono (Hid.out iaw11) ((Upd.refl [] w11).alloc _))).mono ?_
      rintro e w12 ⟨rfl, hw12⟩
      rw [show cmpZ z0 z0 = 0 by unfold cmpZ; simp]
      have Vw12 := ((Upd.refl [] w11).alloc _).trans hw12
      have taw12 := Tb.mono (taw11.old _) hw12 (by simp)
      have tbw12 := Tb.mono (tbw11.old _) hw12 (by simp)
      have tcw12 := Tb.mono (tcw11.old _) hw12 (by simp)
      have tsw12 := Tb.mono (tsw11.old _) hw12 (by simp)
      have tdw12 := Tb.mono (Tb.new w11 #[.int .u8 1, .bool gd, .slice ad Md.length cd, .string ⟨#[]⟩, .int .i64 0, .slice none 0 0, .slice none 0 0] _ rfl) hw12 (by simp)
      have iaw12 : Hid _ := TI.mono (Hid.out iaw11) Vw12
      have ibw12 : Hid _ := TI.mono (Hid.out ibw11) Vw12
      have icw12 : Hid _ := TI.mono (Hid.out icw11) Vw12
      have isw12 : Hid _ := TI.mono (Hid.out isw11) Vw12
      have idw12 : Hid _ := TI.mono (Hid.out idd) Vw12
      have Uw12 : Hid _ := Upd.trans (Hid.out Uw11) Vw12
      clear hw12 Vw12 taw11 tbw11 tcw11 tsw11 iaw11 ibw11 icw11 isw11 idd Uw11
      clear tdw12 idw12
      go_wp2_with (first | (refine load_G _ _ rfl _ _ rfl taw12 rfl rfl ?_) | (refine load_G _ _ rfl _ _ rfl tbw12 rfl rfl ?_) | (refine load_G _ _ rfl _ _ rfl tcw12 rfl rfl ?_) | (refine load_G _ _ rfl _ _ rfl tsw12 rfl rfl ?_))
      refine (Times_any aS none none a2 ai2 at2 cS 0 0 c2 ci2 ct2 gS neg2 MS L2 _ _ _ (Hid.out isw12) (Hid.out icw12)).mono ?_
      rintro e w13 ⟨hR, hw13⟩
      rcases hR with ⟨hs, gx, ax, cx, Mx, rfl, Tx⟩ | ⟨_, rfl⟩
      · have hsx : Hid _ := hs
        have ix : Hid _ := Tx
        clear Tx hs
        have taw13 := Tb.mono taw12 hw13 (by simp)
        have tbw13 := Tb.mono tbw12 hw13 (by simp)
        have tcw13 := Tb.mono tcw12 hw13 (by simp)
        have tsw13 := Tb.mono tsw12 hw13 (by simp)
        have iaw13 : Hid _ := TI.mono (Hid.out iaw12) hw13
        have ibw13 : Hid _ := TI.mono (Hid.out ibw12) hw13
        have icw13 : Hid _ := TI.mono (Hid.out icw12) hw13
        have isw13 : Hid _ := TI.mono (Hid.out isw12) hw13
        have Uw13 : Hid _ := Upd.trans (Hid.out Uw12) hw13
        clear hw13 taw12 tbw12 tcw12 tsw12 iaw12 ibw12 icw12 isw12 Uw12
        go_wp2_with (first | (refine load_G _ _ rfl _ _ rfl (taw13.old _) rfl rfl ?_) | (refine load_G _ _ rfl _ _ rfl (tbw13.old _) rfl rfl ?_) | (refine load_G _ _ rfl _ _ rfl (tcw13.old _) rfl rfl ?_) | (refine load_G _ _ rfl _ _ rfl (tsw13.old _) rfl rfl ?_) | (refine load_G _ _ rfl _ _ rfl (Tb.new w13 _ _ rfl) rfl rfl ?_))
        refine (Times_any a0 ai0 at0 a2 ai2 at2 c0 ci0 ct0 c2 ci2 ct2 neg0 neg2 L0 L2 _ _ _ (TI.mono (Hid.out iaw13) ((Upd.refl [] w13).alloc _)) (TI.mono (Hid.out icw13) ((Upd.refl [] w13).alloc _))).mono ?_
        rintro e w14 ⟨hR, hw14⟩
        rcases hR with ⟨hs, gy, ay, cy, My, rfl, Ty⟩ | ⟨_, rfl⟩
        · have hsy : Hid _ := hs
          have iy : Hid _ := Ty
          clear Ty hs
          have Vw14 := ((Upd.refl [] w13).alloc _).trans hw14
          have taw14 := Tb.mono (taw13.old _) hw14 (by simp)
          have tbw14 := Tb.mono (tbw13.old _) hw14 (by simp)
          have tcw14 := Tb.mono (tcw13.old _) hw14 (by simp)
          have tsw14 := Tb.mono (tsw13.old _) hw14 (by simp)
          have txw14 := Tb.mono (Tb.new w13 #[.int .u8 1, .bool gx, .slice ax Mx.length cx, .string ⟨#[]⟩, .int .i64 0, .slice none 0 0, .slice none 0 0] _ rfl) hw14 (by simp)
          have iaw14 : Hid _ := TI.mono (Hid.out iaw13) Vw14
          have ibw14 : Hid _ := TI.mono (Hid.out ibw13) Vw14
          have icw14 : Hid _ := TI.mono (Hid.out icw13) Vw14
          have isw14 : Hid _ := TI.mono (Hid.out isw13) Vw14
          have ixw14 : Hid _ := TI.mono (Hid.out ix) Vw14
          have Uw14 : Hid _ := Upd.trans (Hid.out Uw13) Vw14
          clear hw14 Vw14 taw13 tbw13 tcw13 tsw13 iaw13 ibw13 icw13 isw13 ix Uw13
          go_wp2_with (first | (refine load_G _ _ rfl _ _ rfl (taw14.old _) rfl rfl ?_) | (refine load_G _ _ rfl _ _ rfl (tbw14.old _) rfl rfl ?_) | (refine load_G _ _ rfl _ _ rfl (tcw14.old _) rfl rfl ?_) | (refine load_G _ _ rfl _ _ rfl (tsw14.old _) rfl rfl ?_) | (refine load_G _ _ rfl _ _ rfl (txw14.old _) rfl rfl ?_) | (refine load_G _ _ rfl _ _ rfl (Tb.new w14 _ _ rfl) rfl rfl ?_))
          refine (Times_any a1 ai1 at1 a2 ai2 at2 c1 ci1 ct1 c2 ci2 ct2 neg1 neg2 L1 L2 _ _ _ (TI.mono (Hid.out ibw14) ((Upd.refl [] w14).alloc _)) (TI.mono (Hid.out icw14) ((Upd.refl [] w14).alloc _))).mono ?_
          rintro e w15 ⟨hR, hw15⟩
          rcases hR with ⟨hs, gz, az, cz, Mz, rfl, Tz⟩ | ⟨_, rfl⟩
          · have hsz : Hid _ := hs
            have iz : Hid _ := Tz
            clear Tz hs
            have Vw15 := ((Upd.refl [] w14).alloc _).trans hw15
            have taw15 := Tb.mono (taw14.old _) hw15 (by simp)
            have tbw15 := Tb.mono (tbw14.old _) hw15 (by simp)
            have tcw15 := Tb.mono (tcw14.old _) hw15 (by simp)
            have tsw15 := Tb.mono (tsw14.old _) hw15 (by simp)
            have txw15 := Tb.mono (txw14.old _) hw15 (by simp)
            have tyw15 := Tb.mono (Tb.new w14 #[.int .u8 1, .bool gy, .slice ay My.length cy, .string ⟨#[]⟩, .int .i64 0, .slice none 0 0, .slice none 0 0] _ rfl) hw15 (by simp)
            have iaw15 : Hid _ := TI.mono (Hid.out iaw14) Vw15
            have ibw15 : Hid _ := TI.mono (Hid.out ibw14) Vw15
            have icw15 : Hid _ := TI.mono (Hid.out icw14) Vw15
            have isw15 : Hid _ := TI.mono (Hid.out isw14) Vw15
            have ixw15 : Hid _ := TI.mono (Hid.out ixw14) Vw15
            have iyw15 : Hid _ := TI.mono (Hid.out iy) Vw15
            have Uw15 : Hid _ := Upd.trans (Hid.out Uw14) Vw15
            clear hw15 Vw15 taw14 tbw14 tcw14 tsw14 txw14 iaw14 ibw14 icw14 isw14 ixw14 iy Uw14
            go_wp2_with (first | (refine load_G _ _ rfl _ _ rfl (taw15.old _) rfl rfl ?_) | (refine load_G _ _ rfl _ _ rfl (tbw15.old _) rfl rfl ?_) | (refine load_G _ _ rfl _ _ rfl (tcw15.old _) rfl rfl ?_) | (refine load_G _ _ rfl _ _ rfl (tsw15.old _) rfl rfl ?_) | (refine load_G _ _ rfl _ _ rfl (txw15.old _) rfl rfl ?_) | (refine load_G _ _ rfl _ _ rfl (tyw15.old _) rfl rfl ?_) | (refine load_G _ _ rfl _ _ rfl (Tb.new w15 _ _ rfl) rfl rfl ?_))
            refine (Add_any ay none none az none none cy 0 0 cz 0 0 gy gz My Mz _ _ _ (TI.mono (Hid.out iyw15) ((Upd.refl [] w15).alloc _)) (TI.mono (Hid.out iz) ((Upd.refl [] w15).alloc _))).mono ?_
            rintro e w16 ⟨hR, hw16⟩
            rw [← Int.add_mul] at hR
            obtain ⟨_, gw, aw, cw, Mw, rfl, Tw⟩ := hR.resolve_right (fun h => h.1 (Hid.out hsx))
            have iw : Hid _ := Tw
            clear Tw hR
            have Vw16 := ((Upd.refl [] w15).alloc _).trans hw16
            have taw16 := Tb.mono (taw15.old _) hw16 (by simp)
            have tbw16 := Tb.mono (tbw15.old _) hw16 (by simp)
            have tcw16 := Tb.mono (tcw15.old _) hw16 (by simp)
            have tsw16 := Tb.mono (tsw15.old _) hw16 (by simp)
            have txw16 := Tb.mono (txw15.old _) hw16 (by simp)
            have tyw16 := Tb.mono (tyw15.old _) hw16 (by simp)
            have tzw16 := Tb.mono (Tb.new w15 #[.int .u8 1, .bool gz, .slice az Mz.length cz, .string ⟨#[]⟩, .int .i64 0, .slice none 0 0, .slice none 0 0] _ rfl) hw16 (by simp)
            have iaw16 : Hid _ := TI.mono (Hid.out iaw15) Vw16
            have ibw16 : Hid _ := TI.mono (Hid.out ibw15) Vw16
            have icw16 : Hid _ := TI.mono (Hid.out icw15) Vw16
            have isw16 : Hid _ := TI.mono (Hid.out isw15) Vw16
            have ixw16 : Hid _ := TI.mono (Hid.out ixw15) Vw16
            have iyw16 : Hid _ := TI.mono (Hid.out iyw15) Vw16
            have izw16 : Hid _ := TI.mono (Hid.out iz) Vw16
            have Uw16 : Hid _ := Upd.trans (Hid.out Uw15) Vw16
            clear hw16 Vw16 taw15 tbw15 tcw15 tsw15 txw15 tyw15 iaw15 ibw15 icw15 isw15 ixw15 iyw15 iz Uw15
            go_wp2_with (first | (refine load_G _ _ rfl _ _ rfl (taw16.old _) rfl rfl ?_) | (refine load_G _ _ rfl _ _ rfl (tbw16.old _) rfl rfl ?_) | (refine load_G _ _ rfl _ _ rfl (tcw16.old _) rfl rfl ?_) | (refine load_G _ _ rfl _ _ rfl (tsw16.old _) rfl rfl ?_) | (refine load_G _ _ rfl _ _ rfl (txw16.old _) rfl rfl ?_) | (refine load_G _ _ rfl _ _ rfl (tyw16.old _) rfl rfl ?_) | (refine load_G _ _ rfl _ _ rfl (tzw16.old _) rfl rfl ?_) | (refine load_G _ _ rfl _ _ rfl (Tb.new w16 _ _ rfl) rfl rfl ?_))
            refine (Compare_any aw none none ax none none cw 0 0 cx 0 0 gw gx Mw Mx _ _ _ (TI.mono (Hid.out iw) ((Upd.refl [] w16).alloc _)) (TI.mono (Hid.out ixw16) ((Upd.refl [] w16).alloc _))).mono ?_
            rintro e w17 ⟨rfl, hw17⟩
            rw [show cmpZ ((z0 + z1) * z2) ((z0 + z1) * z2) = 0 by unfold cmpZ; simp]
            have Vw17 := ((Upd.refl [] w16).alloc _).trans hw17
            have taw17 := Tb.mono (taw16.old _) hw17 (by simp)
            have tbw17 := Tb.mono (tbw16.old _) hw17 (by simp)
            have tcw17 := Tb.mono (tcw16.old _) hw17 (by simp)
            have tsw17 := Tb.mono (tsw16.old _) hw17 (by simp)
            have txw17 := Tb.mono (txw16.old _) hw17 (by simp)
            have tyw17 := Tb.mono (tyw16.old _) hw17 (by simp)
            have tzw17 := Tb.mono (tzw16.old _) hw17 (by simp)
            have tww17 := Tb.mono (Tb.new w16 #[.int .u8 1, .bool gw, .slice aw Mw.length cw, .string ⟨#[]⟩, .int .i64 0, .slice none 0 0, .slice none 0 0] _ rfl) hw17 (by simp)
            have iaw17 : Hid _ := TI.mono (Hid.out iaw16) Vw17
            have ibw17 : Hid _ := TI.mono (Hid.out ibw16) Vw17
            have icw17 : Hid _ := TI.mono (Hid.out icw16) Vw17
            have isw17 : Hid _ := TI.mono (Hid.out isw16) Vw17
            have ixw17 : Hid _ := TI.mono (Hid.out ixw16) Vw17
            have iyw17 : Hid _ := TI.mono (Hid.out iyw16) Vw17
            have izw17 : Hid _ := TI.mono (Hid.out izw16) Vw17
            have iww17 : Hid _ := TI.mono (Hid.out iw) Vw17
            have Uw17 : Hid _ := Upd.trans (Hid.out Uw16) Vw17
            clear hw17 Vw17 taw16 tbw16 tcw16 tsw16 txw16 tyw16 tzw16 iaw16 ibw16 icw16 isw16 ixw16 iyw16 izw16 iw Uw16
            go_wp2
            go_ret
            exact ⟨rfl, (Hid.out Uw17)⟩
          · have Vw15 := ((Upd.refl [] w14).alloc _).trans hw15
            have taw15 := Tb.mono (taw14.old _) hw15 (by simp)
            have tbw15 := Tb.mono (tbw14.old _) hw15 (by simp)
            have tcw15 := Tb.mono (tcw14.old _) hw15 (by simp)
            have tsw15 := Tb.mono (tsw14.old _) hw15 (by simp)
            have txw15 := Tb.mono (txw14.old _) hw15 (by simp)
            have tyw15 := Tb.mono (Tb.new w14 #[.int .u8 1, .bool gy, .slice ay My.length cy, .string ⟨#[]⟩, .int .i64 0, .slice none 0 0, .slice none 0 0] _ rfl) hw15 (by simp)
            have iaw15 : Hid _ := TI.mono (Hid.out iaw14) Vw15
            have ibw15 : Hid _ := TI.mono (Hid.out ibw14) Vw15
            have icw15 : Hid _ := TI.mono (Hid.out icw14) Vw15
            have isw15 : Hid _ := TI.mono (Hid.out isw14) Vw15
            have ixw15 : Hid _ := TI.mono (Hid.out ixw14) Vw15
            have iyw15 : Hid _ := TI.mono (Hid.out iy) Vw15
            have Uw15 : Hid _ := Upd.trans (Hid.out Uw14) Vw15
            clear hw15 Vw15 taw14 tbw14 tcw14 tsw14 txw14 iaw14 ibw14 icw14 isw14 ixw14 iy Uw14
            go_wp2
            go_ret
            exact ⟨rfl, (Upd.alloc (Hid.out Uw15) _)⟩
        · have Vw14 := ((Upd.refl [] w13).alloc _).trans hw14
          have taw14 := Tb.mono (taw13.old _) hw14 (by simp)
          have tbw14 := Tb.mono (tbw13.old _) hw14 (by simp)
          have tcw14 := Tb.mono (tcw13.old _) hw14 (by simp)
          have tsw14 := Tb.mono (tsw13.old _) hw14 (by simp)
          have txw14 := Tb.mono (Tb.new w13 #[.int .u8 1, .bool gx, .slice ax Mx.length cx, .string ⟨#[]⟩, .int .i64 0, .slice none 0 0, .slice none 0 0] _ rfl) hw14 (by simp)
          have iaw14 : Hid _ := TI.mono (Hid.out iaw13) Vw14
          have ibw14 : Hid _ := TI.mono (Hid.out ibw13) Vw14
          have icw14 : Hid _ := TI.mono (Hid.out icw13) Vw14
          have isw14 : Hid _ := TI.mono (Hid.out isw13) Vw14
          have ixw14 : Hid _ := TI.mono (Hid.out ix) Vw14
          have Uw14 : Hid _ := Upd.trans (Hid.out Uw13) Vw14
          clear hw14 Vw14 taw13 tbw13 tcw13 tsw13 iaw13 ibw13 icw13 isw13 ix Uw13
          go_wp2_with (first | (refine load_G _ _ rfl _ _ rfl (taw14.old _) rfl rfl ?_) | (refine load_G _ _ rfl _ _ rfl (tbw14.old _) rfl rfl ?_) | (refine load_G _ _ rfl _ _ rfl (tcw14.old _) rfl rfl ?_) | (refine load_G _ _ rfl _ _ rfl (tsw14.old _) rfl rfl ?_) | (refine load_G _ _ rfl _ _ rfl (txw14.old _) rfl rfl ?_) | (refine load_G _ _ rfl _ _ rfl (Tb.new w14 _ _ rfl) rfl rfl ?_))
          refine (Times_any a1 ai1 at1 a2 ai2 at2 c1 ci1 ct1 c2 ci2 ct2 neg1 neg2 L1 L2 _ _ _ (TI.mono (Hid.out ibw14) ((Upd.refl [] w14).alloc _)) (TI.mono (Hid.out icw14) ((Upd.refl [] w14).alloc _))).mono ?_
          rintro e w15 ⟨hR, hw15⟩
          obtain ⟨kz, gz, az, cz, Mz, boz, rfl, hz⟩ := hR.uni
          clear hR hz
          have Vw15 := ((Upd.refl [] w14).alloc _).trans hw15
          have taw15 := Tb.mono (taw14.old _) hw15 (by simp)
          have tbw15 := Tb.mono (tbw14.old _) hw15 (by simp)
          have tcw15 := Tb.mono (tcw14.old _) hw15 (by simp)
          have tsw15 := Tb.mono (tsw14.old _) hw15 (by simp)
          have txw15 := Tb.mono (txw14.old _) hw15 (by simp)
          have tyw15 := Tb.mono (Tb.new w14 #[.int .u8 0, .bool false, .slice none 0 0, .string ⟨#[]⟩, .int .i64 0, .slice none 0 0, .slice none 0 0] _ rfl) hw15 (by simp)
          have iaw15 : Hid _ := TI.mono (Hid.out iaw14) Vw15
          have ibw15 : Hid _ := TI.mono (Hid.out ibw14) Vw15
          have icw15 : Hid _ := TI.mono (Hid.out icw14) Vw15
          have isw15 : Hid _ := TI.mono (Hid.out isw14) Vw15
          have ixw15 : Hid _ := TI.mono (Hid.out ixw14) Vw15
          have Uw15 : Hid _ := Upd.trans (Hid.out Uw14) Vw15
          clear hw15 Vw15 taw14 tbw14 tcw14 tsw14 txw14 iaw14 ibw14 icw14 isw14 ixw14 Uw14
          go_wp2
          go_ret
          exact ⟨rfl, (Upd.alloc (Hid.out Uw15) _)⟩
      · have taw13 := Tb.mono taw12 hw13 (by simp)
        have tbw13 := Tb.mono tbw12 hw13 (by simp)
        have tcw13 := Tb.mono tcw12 hw13 (by simp)
        have tsw13 := Tb.mono tsw12 hw13 (by simp)
        have iaw13 : Hid _ := TI.mono (Hid.out iaw12) hw13
        have ibw13 : Hid _ := TI.mono (Hid.out ibw12) hw13
        have icw13 : Hid _ := TI.mono (Hid.out icw12) hw13
        have isw13 : Hid _ := TI.mono (Hid.out isw12) hw13
        have Uw13 : Hid _ := Upd.trans (Hid.out Uw12) hw13
        clear hw13 taw12 tbw12 tcw12 tsw12 iaw12 ibw12 icw12 isw12 Uw12
        go_wp2_with (first | (refine load_G _ _ rfl _ _ rfl (taw13.old _) rfl rfl ?_) | (refine load_G _ _ rfl _ _ rfl (tbw13.old _) rfl rfl ?_) | (refine load_G _ _ rfl _ _ rfl (tcw13.old _) rfl rfl ?_) | (refine load_G _ _ rfl _ _ rfl (tsw13.old _) rfl rfl ?_) | (refine load_G _ _ rfl _ _ rfl (Tb.new w13 _ _ rfl) rfl rfl ?_))
        refine (Times_any a0 ai0 at0 a2 ai2 at2 c0 ci0 ct0 c2 ci2 ct2 neg0 neg2 L0 L2 _ _ _ (TI.mono (Hid.out iaw13) ((Upd.refl [] w13).alloc _)) (TI.mono (Hid.out icw13) ((Upd.refl [] w13).alloc _))).mono ?_
        rintro e w14 ⟨hR, hw14⟩
        obtain ⟨ky, gy, ay, cy, My, boy, rfl, hy⟩ := hR.uni
        clear hR hy
        have Vw14 := ((Upd.refl [] w13).alloc _).trans hw14
        have taw14 := Tb.mono (taw13.old _) hw14 (by simp)
        have tbw14 := Tb.mono (tbw13.old _) hw14 (by simp)
        have tcw14 := Tb.mono (tcw13.old _) hw14 (by simp)
        have tsw14 := Tb.mono (tsw13.old _) hw14 (by simp)
        have txw14 := Tb.mono (Tb.new w13 #[.int .u8 0, .bool false, .slice none 0 0, .string ⟨#[]⟩, .int .i64 0, .slice none 0 0, .slice none 0 0] _ rfl) hw14 (by simp)
        have iaw14 : Hid _ := TI.mono (Hid.out iaw13) Vw14
        have ibw14 : Hid _ := TI.mono (Hid.out ibw13) Vw14
        have icw14 : Hid _ := TI.mono (Hid.out icw13) Vw14
        have isw14 : Hid _ := TI.mono (Hid.out isw13) Vw14
        have Uw14 : Hid _ := Upd.trans (Hid.out Uw13) Vw14
        clear hw14 Vw14 taw13 tbw13 tcw13 tsw13 iaw13 ibw13 icw13 isw13 Uw13
        go_wp2_with (first | (refine load_G _ _ rfl _ _ rfl (taw14.old _) rfl rfl ?_) | (refine load_G _ _ rfl _ _ rfl (tbw14.old _) rfl rfl ?_) | (refine load_G _ _ rfl _ _ rfl (tcw14.old _) rfl rfl ?_) | (refine load_G _ _ rfl _ _ rfl (tsw14.old _) rfl rfl ?_) | (refine load_G _ _ rfl _ _ rfl (txw14.old _) rfl rfl ?_) | (refine load_G _ _ rfl _ _ rfl (Tb.new w14 _ _ rfl) rfl rfl ?_))
        refine (Times_any a1 ai1 at1 a2 ai2 at2 c1 ci1 ct1 c2 ci2 ct2 neg1 neg2 L1 L2 _ _ _ (TI.mono (Hid.out ibw14) ((Upd.refl [] w14).alloc _)) (TI.mono (Hid.out icw14) ((Upd.refl [] w14).alloc _))).mono ?_
        rintro e w15 ⟨hR, hw15⟩
        obtain ⟨kz, gz, az, cz, Mz, boz, rfl, hz⟩ := hR.uni
        clear hR hz
        have Vw15 := ((Upd.refl [] w14).alloc _).trans hw15
        have taw15 := Tb.mono (taw14.old _) hw15 (by simp)
        have tbw15 := Tb.mono (tbw14.old _) hw15 (by simp)
        have tcw15 := Tb.mono (tcw14.old _) hw15 (by simp)
        have tsw15 := Tb.mono (tsw14.old _) hw15 (by simp)
        have txw15 := Tb.mono (txw14.old _) hw15 (by simp)
        have tyw15 := Tb.mono (Tb.new w14 #[.int .u8 ky, .bool gy, .slice ay My.length cy, .string ⟨#[]⟩, .int .i64 0, .slice none 0 0, .slice none 0 0] _ rfl) hw15 (by simp)
        have iaw15 : Hid _ := TI.mono (Hid.out iaw14) Vw15
        have ibw15 : Hid _ := TI.mono (Hid.out ibw14) Vw15
        have icw15 : Hid _ := TI.mono (Hid.out icw14) Vw15
        have isw15 : Hid _ := TI.mono (Hid.out isw14) Vw15
        have Uw15 : Hid _ := Upd.trans (Hid.out Uw14) Vw15
        clear hw15 Vw15 taw14 tbw14 tcw14 tsw14 txw14 iaw14 ibw14 icw14 isw14 Uw14
        go_wp2
        go_ret
        exact ⟨rfl, (Upd.alloc (Hid.out Uw15) _)⟩
    · have Vw7 := ((Upd.refl [] w6).alloc _).trans hw7
      have taw7 := Tb.mono (taw6.old _) hw7 (by simp)
      have tbw7 := Tb.mono (tbw6.old _) hw7 (by simp)
      have tcw7 := Tb.mono (tcw6.old _) hw7 (by simp)
      have tsw7 := Tb.mono (tsw6.old _) hw7 (by simp)
      have ttw7 := Tb.mono (Tb.new w6 #[.int .u8 1, .bool gt, .slice at_ Mt.length ct_, .string ⟨#[]⟩, .int .i64 0, .slice none 0 0, .slice none 0 0] _ rfl) hw7 (by simp)
      have iaw7 : Hid _ := TI.mono (Hid.out iaw6) Vw7
      have ibw7 : Hid _ := TI.mono (Hid.out ibw6) Vw7
      have icw7 : Hid _ := TI.mono (Hid.out icw6) Vw7
      have isw7 : Hid _ := TI.mono (Hid.out isw6) Vw7
      have itw7 : Hid _ := TI.mono (Hid.out itt) Vw7
      have Uw7 : Hid _ := Upd.trans (Hid.out Uw6) Vw7
      clear hw7 Vw7 taw6 tbw6 tcw6 tsw6 iaw6 ibw6 icw6 isw6 itt Uw6
      go_wp2_with (first | (refine load_G _ _ rfl _ _ rfl (taw7.old _) rfl rfl ?_) | (refine load_G _ _ rfl _ _ rfl (tbw7.old _) rfl rfl ?_) | (refine load_G _ _ rfl _ _ rfl (tcw7.old _) rfl rfl ?_) | (refine load_G _ _ rfl _ _ rfl (tsw7.old _) rfl rfl ?_) | (refine load_G _ _ rfl _ _ rfl (ttw7.old _) rfl rfl ?_) | (refine load_G _ _ rfl _ _ rfl (Tb.new w7 _ _ rfl) rfl rfl ?_))
      refine (Times_any a1 ai1 at1 a0 ai0 at0 c1 ci1 ct1 c0 ci0 ct0 neg1 neg0 L1 L0 _ _ _ (TI.mono (Hid.out ibw7) ((Upd.refl [] w7).alloc _)) (TI.mono (Hid.out iaw7) ((Upd.refl [] w7).alloc _))).mono ?_
      rintro e w8 ⟨hR, hw8⟩
      rw [Int.mul_comm z1 z0] at hR
      obtain ⟨_, rfl⟩ := hR.resolve_left (fun h => hs2 h.1)
      clear hR hs2
      have Vw8 := ((Upd.refl [] w7).alloc _).trans hw8
      have taw8 := Tb.mono (taw7.old _) hw8 (by simp)
      have tbw8 := Tb.mono (tbw7.old _) hw8 (by simp)
      have tcw8 := Tb.mono (tcw7.old _) hw8 (by simp)
      have tsw8 := Tb.mono (tsw7.old _) hw8 (by simp)
      have ttw8 := Tb.mono (ttw7.old _) hw8 (by simp)
      have tpw8 := Tb.mono (Tb.new w7 #[.int .u8 0, .bool false, .slice none 0 0, .string ⟨#[]⟩, .int .i64 0, .slice none 0 0, .slice none 0 0] _ rfl) hw8 (by simp)
      have iaw8 : Hid _ := TI.mono (Hid.out iaw7) Vw8
      have ibw8 : Hid _ := TI.mono (Hid.out ibw7) Vw8
      have icw8 : Hid _ := TI.mono (Hid.out icw7) Vw8
      have isw8 : Hid _ := TI.mono (Hid.out isw7) Vw8
      have itw8 : Hid _ := TI.mono (Hid.out itw7) Vw8
      have Uw8 : Hid _ := Upd.trans (Hid.out Uw7) Vw8
      clear hw8 Vw8 taw7 tbw7 tcw7 tsw7 ttw7 iaw7 ibw7 icw7 isw7 itw7 Uw7
      go_wp2_with (first | (refine load_G _ _ rfl _ _ rfl (taw8.old _) rfl rfl ?_) | (refine load_G _ _ rfl _ _ rfl (tbw8.old _) rfl rfl ?_) | (refine load_G _ _ rfl _ _ rfl (tcw8.old _) rfl rfl ?_) | (refine load_G _ _ rfl _ _ rfl (tsw8.old _) rfl rfl ?_) | (refine load_G _ _ rfl _ _ rfl (ttw8.old _) rfl rfl ?_) | (refine load_G _ _ rfl _ _ rfl (tpw8.old _) rfl rfl ?_) | (refine load_G _ _ rfl _ _ rfl (Tb.new w8 _ _ rfl) rfl rfl ?_))
      refine (Compare_any aS none none at_ none none cS 0 0 ct_ 0 0 gS gt MS Mt _ _ _ (TI.mono (Hid.out isw8) ((Upd.refl [] w8).alloc _)) (TI.mono (Hid.out itw8) ((Upd.refl [] w8).alloc _))).mono ?_
      rintro e w9 ⟨rfl, hw9⟩
      rw [show cmpZ (z0 + z1) (z0 + z1) = 0 by unfold cmpZ; simp]
      have Vw9 := ((Upd.refl [] w8).alloc _).trans hw9
      have taw9 := Tb.mono (taw8.old _) hw9 (by simp)
      have tbw9 := Tb.mono (tbw8.old _) hw9 (by simp)
      have tcw9 := Tb.mono (tcw8.old _) hw9 (by simp)
      have tsw9 := Tb.mono (tsw8.old _) hw9 (by simp)
      have ttw9 := Tb.mono (ttw8.old _) hw9 (by simp)
      have tpw9 := Tb.mono (tpw8.old _) hw9 (by simp)
      have tqw9 := Tb.mono (Tb.new w8 #[.int .u8 0, .bool false, .slice none 0 0, .string ⟨#[]⟩, .int .i64 0, .slice none 0 0, .slice none 0 0] _ rfl) hw9 (by simp)
      have iaw9 : Hid _ := TI.mono (Hid.out iaw8) Vw9
      have ibw9 : Hid _ := TI.mono (Hid.out ibw8) Vw9
      have icw9 : Hid _ := TI.mono (Hid.out icw8) Vw9
      have isw9 : Hid _ := TI.mono (Hid.out isw8) Vw9
      have itw9 : Hid _ := TI.mono (Hid.out itw8) Vw9
      have Uw9 : Hid _ := Upd.trans (Hid.out Uw8) Vw9
      clear hw9 Vw9 taw8 tbw8 tcw8 tsw8 ttw8 tpw8 iaw8 ibw8 icw8 isw8 itw8 Uw8
      clear tpw9 tqw9 ttw9 itw9
      go_wp2_with (first | (refine load_G _ _ rfl _ _ rfl taw9 rfl rfl ?_) | (refine load_G _ _ rfl _ _ rfl tbw9 rfl rfl ?_) | (refine load_G _ _ rfl _ _ rfl tcw9 rfl rfl ?_) | (refine load_G _ _ rfl _ _ rfl tsw9 rfl rfl ?_))
      refine (Sub_any aS none none a1 ai1 at1 cS 0 0 c1 ci1 ct1 gS neg1 MS L1 _ _ _ (Hid.out isw9) (Hid.out ibw9)).mono ?_
      rintro e w10 ⟨hR, hw10⟩
      rw [Int.add_sub_cancel] at hR
      obtain ⟨_, gd, ad, cd, Md, rfl, Td⟩ := hR.resolve_right (fun h => h.1 (Hid.out iaw9).small)
      have idd : Hid _ := Td
      clear Td hR
      have taw10 := Tb.mono taw9 hw10 (by simp)
      have tbw10 := Tb.mono tbw9 hw10 (by simp)
      have tcw10 := Tb.mono tcw9 hw10 (by simp)
      have tsw10 := Tb.mono tsw9 hw10 (by simp)
      have iaw10 : Hid _ := TI.mono (Hid.out iaw9) hw10
      have ibw10 : Hid _ := TI.mono (Hid.out ibw9) hw10
      have icw10 : Hid _ := TI.mono (Hid.out icw9) hw10
      have isw10 : Hid _ := TI.mono (Hid.out isw9) hw10
      have Uw10 : Hid _ := Upd.trans (Hid.out Uw9) hw10
      clear hw10 taw9 tbw9 tcw9 tsw9 iaw9 ibw9 icw9 isw9 Uw9
      go_wp2_with (first | (refine load_G _ _ rfl _ _ rfl (taw10.old _) rfl rfl ?_) | (refine load_G _ _ rfl _ _ rfl (tbw10.old _) rfl rfl ?_) | (refine load_G _ _ rfl _ _ rfl (tcw10.old _) rfl rfl ?_) | (refine load_G _ _ rfl _ _ rfl (tsw10.old _) rfl rfl ?_) | (refine load_G _ _ rfl _ _ rfl (Tb.new w10 _ _ rfl) rfl rfl ?_))
      refine (Compare_any ad none none a0 ai0 at0 cd 0 0 c0 ci0 ct0 gd neg0 Md L0 _ _ _ (TI.mono (Hid.out idd) ((Upd.refl [] w10).alloc _)) (TI.mono (Hid.out iaw10) ((Upd.refl [] w10).alloc _))).mono ?_
      rintro e w11 ⟨rfl, hw11⟩
      rw [show cmpZ z0 z0 = 0 by unfold cmpZ; simp]
      have Vw11 := ((Upd.refl [] w10).alloc _).trans hw11
      have taw11 := Tb.mono (taw10.old _) hw11 (by simp)
      have tbw11 := Tb.mono (tbw10.old _) hw11 (by simp)
      have tcw11 := Tb.mono (tcw10.old _) hw11 (by simp)
      have tsw11 := Tb.mono (tsw10.old _) hw11 (by simp)
      have tdw11 := Tb.mono (Tb.new w10 #[.int .u8 1, .bool gd, .slice ad Md.length cd, .string ⟨#[]⟩, .int .i64 0, .slice none 0 0, .slice none 0 0] _ rfl) hw11 (by simp)
      have iaw11 : Hid _ := TI.mono (Hid.out iaw10) Vw11
      have ibw11 : Hid _ := TI.mono (Hid.out ibw10) Vw11
      have icw11 : Hid _ := TI.mono (Hid.out icw10) Vw11
      have isw11 : Hid _ := TI.mono (Hid.out isw10) Vw11
      have idw11 : Hid _ := TI.mono (Hid.out idd) Vw11
      have Uw11 : Hid _ := Upd.trans (Hid.out Uw10) Vw11
      clear hw11 Vw11 taw10 tbw10 tcw10 tsw10 iaw10 ibw10 icw10 isw10 idd Uw10
      clear tdw11 idw11
      go_wp2_with (first | (refine load_G _ _ rfl _ _ rfl taw11 rfl rfl ?_) | (refine load_G _ _ rfl _ _ rfl tbw11 rfl rfl ?_) | (refine load_G _ _ rfl _ _ rfl tcw11 rfl rfl ?_) | (refine load_G _ _ rfl _ _ rfl tsw11 rfl rfl ?_))
      refine (Times_any aS none none a2 ai2 at2 cS 0 0 c2 ci2 ct2 gS neg2 MS L2 _ _ _ (Hid.out isw11) (Hid.out icw11)).mono ?_
      rintro e w12 ⟨hR, hw12⟩
      rcases hR with ⟨hs, gx, ax, cx, Mx, rfl, Tx⟩ | ⟨_, rfl⟩
      · have hsx : Hid _ := hs
        have ix : Hid _ := Tx
        clear Tx hs
        have taw12 := Tb.mono taw11 hw12 (by simp)
        have tbw12 := Tb.mono tbw11 hw12 (by simp)
        have tcw12 := Tb.mono tcw11 hw12 (by simp)
        have tsw12 := Tb.mono tsw11 hw12 (by simp)
        have iaw12 : Hid _ := TI.mono (Hid.out iaw11) hw12
        have ibw12 : Hid _ := TI.mono (Hid.out ibw11) hw12
        have icw12 : Hid _ := TI.mono (Hid.out icw11) hw12
        have isw12 : Hid _ := TI.mono (Hid.out isw11) hw12
        have Uw12 : Hid _ := Upd.trans (Hid.out Uw11) hw12
        clear hw12 taw11 tbw11 tcw11 tsw11 iaw11 ibw11 icw11 isw11 Uw11
        go_wp2_with (first | (refine load_G _ _ rfl _ _ rfl (taw12.old _) rfl rfl ?_) | (refine load_G _ _ rfl _ _ rfl (tbw12.old _) rfl rfl ?_) | (refine load_G _ _ rfl _ _ rfl (tcw12.old _) rfl rfl ?_) | (refine load_G _ _ rfl _ _ rfl (tsw12.old _) rfl rfl ?_) | (refine load_G _ _ rfl _ _ rfl (Tb.new w12 _ _ rfl) rfl rfl ?_))
        refine (Times_any a0 ai0 at0 a2 ai2 at2 c0 ci0 ct0 c2 ci2 ct2 neg0 neg2 L0 L2 _ _ _ (TI.mono (Hid.out iaw12) ((Upd.refl [] w12).alloc _)) (TI.mono (Hid.out icw12) ((Upd.refl [] w12).alloc _))).mono ?_
        rintro e w13 ⟨hR, hw13⟩
        rcases hR with ⟨hs, gy, ay, cy, My, rfl, Ty⟩ | ⟨_, rfl⟩
        · have hsy : Hid _ := hs
          have iy : Hid _ := Ty
          clear Ty hs
          have Vw13 := ((Upd.refl [] w12).alloc _).trans hw13
          have taw13 := Tb.mono (taw12.old _) hw13 (by simp)
          have tbw13 := Tb.mono (tbw12.old _) hw13 (by simp)
          have tcw13 := Tb.mono (tcw12.old _) hw13 (by simp)
          have tsw13 := Tb.mono (tsw12.old _) hw13 (by simp)
          have txw13 := Tb.mono (Tb.new w12 #[.int .u8 1, .bool gx, .slice ax Mx.length cx, .string ⟨#[]⟩, .int .i64 0, .slice none 0 0, .slice none 0 0] _ rfl) hw13 (by simp)
          have iaw13 : Hid _ := TI.mono (Hid.out iaw12) Vw13
          have ibw13 : Hid _ := TI.mono (Hid.out ibw12) Vw13
          have icw13 : Hid _ := TI.mono (Hid.out icw12) Vw13
          have isw13 : Hid _ := TI.mono (Hid.out isw12) Vw13
          have ixw13 : Hid _ := TI.mono (Hid.out ix) Vw13
          have Uw13 : Hid _ := Upd.trans (Hid.out Uw12) Vw13
          clear hw13 Vw13 taw12 tbw12 tcw12 tsw12 iaw12 ibw12 icw12 isw12 ix Uw12
          go_wp2_with (first | (refine load_G _ _ rfl _ _ rfl (taw13.old _) rfl rfl ?_) | (refine load_G _ _ rfl _ _ rfl (tbw13.old _) rfl rfl ?_) | (refine load_G _ _ rfl _ _ rfl (tcw13.old _) rfl rfl ?_) | (refine load_G _ _ rfl _ _ rfl (tsw13.old _) rfl rfl ?_) | (refine load_G _ _ rfl _ _ rfl (txw13.old _) rfl rfl ?_) | (refine load_G _ _ rfl _ _ rfl (Tb.new w13 _ _ rfl) rfl rfl ?_))
          refine (Times_any a1 ai1 at1 a2 ai2 at2 c1 ci1 ct1 c2 ci2 ct2 neg1 neg2 L1 L2 _ _ _ (TI.mono (Hid.out ibw13) ((Upd.refl [] w13).alloc _)) (TI.mono (Hid.out icw13) ((Upd.refl [] w13).alloc _))).mono ?_
          rintro e w14 ⟨hR, hw14⟩
          rcases hR with ⟨hs, gz, az, cz, Mz, rfl, Tz⟩ | ⟨_, rfl⟩
          · have hsz : Hid _ := hs
            have iz : Hid _ := Tz
            clear Tz hs
            have Vw14 := ((Upd.refl [] w13).alloc _).trans hw14
            have taw14 := Tb.mono (taw13.old _) hw14 (by simp)
            have tbw14 := Tb.mono (tbw13.old _) hw14 (by simp)
            have tcw14 := Tb.mono (tcw13.old _) hw14 (by simp)
            have tsw14 := Tb.mono (tsw13.old _) hw14 (by simp)
            have txw14 := Tb.mono (txw13.old _) hw14 (by simp)
            have tyw14 := Tb.mono (Tb.new w13 #[.int .u8 1, .bool gy, .slice ay My.length cy, .string ⟨#[]⟩, .int .i64 0, .slice none 0 0, .slice none 0 0] _ rfl) hw14 (by simp)
            have iaw14 : Hid _ := TI.mono (Hid.out iaw13) Vw14
            have ibw14 : Hid _ := TI.mono (Hid.out ibw13) Vw14
            have icw14 : Hid _ := TI.mono (Hid.out icw13) Vw14
            have isw14 : Hid _ := TI.mono (Hid.out isw13) Vw14
            have ixw14 : Hid _ := TI.mono (Hid.out ixw13) Vw14
            have iyw14 : Hid _ := TI.mono (Hid.out iy) Vw14
            have Uw14 : Hid _ := Upd.trans (Hid.out Uw13) Vw14
            clear hw14 Vw14 taw13 tbw13 tcw13 tsw13 txw13 iaw13 ibw13 icw13 isw13 ixw13 iy Uw13
            go_wp2_with (first | (refine load_G _ _ rfl _ _ rfl (taw14.old _) rfl rfl ?_) | (refine load_G _ _ rfl _ _ rfl (tbw14.old _) rfl rfl ?_) | (refine load_G _ _ rfl _ _ rfl (tcw14.old _) rfl rfl ?_) | (refine load_G _ _ rfl _ _ rfl (tsw14.old _) rfl rfl ?_) | (refine load_G _ _ rfl _ _ rfl (txw14.old _) rfl rfl ?_) | (refine load_G _ _ rfl _ _ rfl (tyw14.old _) rfl rfl ?_) | (refine load_G _ _ rfl _ _ rfl (Tb.new w14 _ _ rfl) rfl rfl ?_))
            refine (Add_any ay none none az none none cy 0 0 cz 0 0 gy gz My Mz _ _ _ (TI.mono (Hid.out iyw14) ((Upd.refl [] w14).alloc _)) (TI.mono (Hid.out iz) ((Upd.refl [] w14).alloc _))).mono ?_
            rintro e w15 ⟨hR, hw15⟩
            rw [← Int.add_mul] at hR
            obtain ⟨_, gw, aw, cw, Mw, rfl, Tw⟩ := hR.resolve_right (fun h => h.1 (Hid.out hsx))
            have iw : Hid _ := Tw
            clear Tw hR
            have Vw15 := ((Upd.refl [] w14).alloc _).trans hw15
            have taw15 := Tb.mono (taw14.old _) hw15 (by simp)
            have tbw15 := Tb.mono (tbw14.old _) hw15 (by simp)
            have tcw15 := Tb.mono (tcw14.old _) hw15 (by simp)
            have tsw15 := Tb.mono (tsw14.old _) hw15 (by simp)
            have txw15 := Tb.mono (txw14.old _) hw15 (by simp)
            have tyw15 := Tb.mono (tyw14.old _) hw15 (by simp)
            have tzw15 := Tb.mono (Tb.new w14 #[.int .u8 1, .bool gz, .slice az Mz.length cz, .string ⟨#[]⟩, .int .i64 0, .slice none 0 0, .slice none 0 0] _ rfl) hw15 (by simp)
            have iaw15 : Hid _ := TI.mono (Hid.out iaw14) Vw15
            have ibw15 : Hid _ := TI.mono (Hid.out ibw14) Vw15
            have icw15 : Hid _ := TI.mono (Hid.out icw14) Vw15
            have isw15 : Hid _ := TI.mono (Hid.out isw14) Vw15
            have ixw15 : Hid _ := TI.mono (Hid.out ixw14) Vw15
            have iyw15 : Hid _ := TI.mono (Hid.out iyw14) Vw15
            have izw15 : Hid _ := TI.mono (Hid.out iz) Vw15
            have Uw15 : Hid _ := Upd.trans (Hid.out Uw14) Vw15
            clear hw15 Vw15 taw14 tbw14 tcw14 tsw14 txw14 tyw14 iaw14 ibw14 icw14 isw14 ixw14 iyw14 iz Uw14
            go_wp2_with (first | (refine load_G _ _ rfl _ _ rfl (taw15.old _) rfl rfl ?_) | (refine load_G _ _ rfl _ _ rfl (tbw15.old _) rfl rfl ?_) | (refine load_G _ _ rfl _ _ rfl (tcw15.old _) rfl rfl ?_) | (refine load_G _ _ rfl _ _ rfl (tsw15.old _) rfl rfl ?_) | (refine load_G _ _ rfl _ _ rfl (txw15.old _) rfl rfl ?_) | (refine load_G _ _ rfl _ _ rfl (tyw15.old _) rfl rfl ?_) | (refine load_G _ _ rfl _ _ rfl (tzw15.old _) rfl rfl ?_) | (refine load_G _ _ rfl _ _ rfl (Tb.new w15 _ _ rfl) rfl rfl ?_))
            refine (Compare_any aw none none ax none none cw 0 0 cx 0 0 gw gx Mw Mx _ _ _ (TI.mono (Hid.out iw) ((Upd.refl [] w15).alloc _)) (TI.mono (Hid.out ixw15) ((Upd.refl [] w15).alloc _))).mono ?_
            rintro e w16 ⟨rfl, hw16⟩
            rw [show cmpZ ((z0 + z1) * z2) ((z0 + z1) * z2) = 0 by unfold cmpZ; simp]
            have Vw16 := ((Upd.refl [] w15).alloc _).trans hw16
            have taw16 := Tb.mono (taw15.old _) hw16 (by simp)
            have tbw16 := Tb.mono (tbw15.old _) hw16 (by simp)
            have tcw16 := Tb.mono (tcw15.old _) hw16 (by simp)
            have tsw16 := Tb.mono (tsw15.old _) hw16 (by simp)
            have txw16 := Tb.mono (txw15.old _) hw16 (by simp)
            have tyw16 := Tb.mono (tyw15.old _) hw16 (by simp)
            have tzw16 := Tb.mono (tzw15.old _) hw16 (by simp)
            have tww16 := Tb.mono (Tb.new w15 #[.int .u8 1, .bool gw, .slice aw Mw.length cw, .string ⟨#[]⟩, .int .i64 0, .slice none 0 0, .slice none 0 0] _ rfl) hw16 (by simp)
            have iaw16 : Hid _ := TI.mono (Hid.out iaw15) Vw16
            have ibw16 : Hid _ := TI.mono (Hid.out ibw15) Vw16
            have icw16 : Hid _ := TI.mono (Hid.out icw15) Vw16
            have isw16 : Hid _ := TI.mono (Hid.out isw15) Vw16
            have ixw16 : Hid _ := TI.mono (Hid.out ixw15) Vw16
            have iyw16 : Hid _ := TI.mono (Hid.out iyw15) Vw16
            have izw16 : Hid _ := TI.mono (Hid.out izw15) Vw16
            have iww16 : Hid _ := TI.mono (Hid.out iw) Vw16
            have Uw16 : Hid _ := Upd.trans (Hid.out Uw15) Vw16
            clear hw16 Vw16 taw15 tbw15 tcw15 tsw15 txw15 tyw15 tzw15 iaw15 ibw15 icw15 isw15 ixw15 iyw15 izw15 iw Uw15
            go_wp2
            go_ret
            exact ⟨rfl, (Hid.out Uw16)⟩
          · have Vw14 := ((Upd.refl [] w13).alloc _).trans hw14
            have taw14 := Tb.mono (taw13.old _) hw14 (by simp)
            have tbw14 := Tb.mono (tbw13.old _) hw14 (by simp)
            have tcw14 := Tb.mono (tcw13.old _) hw14 (by simp)
            have tsw14 := Tb.mono (tsw13.old _) hw14 (by simp)
            have txw14 := Tb.mono (txw13.old _) hw14 (by simp)
            have tyw14 := Tb.mono (Tb.new w13 #[.int .u8 1, .bool gy, .slice ay My.length cy, .string ⟨#[]⟩, .int .i64 0, .slice none 0 0, .slice none 0 0] _ rfl) hw14 (by simp)
            have iaw14 : Hid _ := TI.mono (Hid.out iaw13) Vw14
            have ibw14 : Hid _ := TI.mono (Hid.out ibw13) Vw14
            have icw14 : Hid _ := TI.mono (Hid.out icw13) Vw14
            have isw14 : Hid _ := TI.mono (Hid.out isw13) Vw14
            have ixw14 : Hid _ := TI.mono (Hid.out ixw13) Vw14
            have iyw14 : Hid _ := TI.mono (Hid.out iy) Vw14
            have Uw14 : Hid _ := Upd.trans (Hid.out Uw13) Vw14
            clear hw14 Vw14 taw13 tbw13 tcw13 tsw13 txw13 iaw13 ibw13 icw13 isw13 ixw13 iy Uw13
            go_wp2
            go_ret
            exact ⟨rfl, (Upd.alloc (Hid.out Uw14) _)⟩
        · have Vw13 := ((Upd.refl [] w12).alloc _).trans hw13
          have taw13 := Tb.mono (taw12.old _) hw13 (by simp)
          have tbw13 := Tb.mono (tbw12.old _) hw13 (by simp)
          have tcw13 := Tb.mono (tcw12.old _) hw13 (by simp)
          have tsw13 := Tb.mono (tsw12.old _) hw13 (by simp)
          have txw13 := Tb.mono (Tb.new w12 #[.int .u8 1, .bool gx, .slice ax Mx.length cx, .string ⟨#[]⟩, .int .i64 0, .slice none 0 0, .slice none 0 0] _ rfl) hw13 (by simp)
          have iaw13 : Hid _ := TI.mono (Hid.out iaw12) Vw13
          have ibw13 : Hid _ := TI.mono (Hid.out ibw12) Vw13
          have icw13 : Hid _ := TI.mono (Hid.out icw12) Vw13
          have isw13 : Hid _ := TI.mono (Hid.out isw12) Vw13
          have ixw13 : Hid _ := TI.mono (Hid.out ix) Vw13
          have Uw13 : Hid _ := Upd.trans (Hid.out Uw12) Vw13
          clear hw13 Vw13 taw12 tbw12 tcw12 tsw12 iaw12 ibw12 icw12 isw12 ix Uw12
          go_wp2_with (first | (refine load_G _ _ rfl _ _ rfl (taw13.old _) rfl rfl ?_) | (refine load_G _ _ rfl _ _ rfl (tbw13.old _) rfl rfl ?_) | (refine load_G _ _ rfl _ _ rfl (tcw13.old _) rfl rfl ?_) | (refine load_G _ _ rfl _ _ rfl (tsw13.old _) rfl rfl ?_) | (refine load_G _ _ rfl _ _ rfl (txw13.old _) rfl rfl ?_) | (refine load_G _ _ rfl _ _ rfl (Tb.new w13 _ _ rfl) rfl rfl ?_))
          refine (Times_any a1 ai1 at1 a2 ai2 at2 c1 ci1 ct1 c2 ci2 ct2 neg1 neg2 L1 L2 _ _ _ (TI.mono (Hid.out ibw13) ((Upd.refl [] w13).alloc _)) (TI.mono (Hid.out icw13) ((Upd.refl [] w13).alloc _))).mono ?_
          rintro e w14 ⟨hR, hw14⟩
          obtain ⟨kz, gz, az, cz, Mz, boz, rfl, hz⟩ := hR.uni
          clear hR hz
          have Vw14 := ((Upd.refl [] w13).alloc _).trans hw14
          have taw14 := Tb.mono (taw13.old _) hw14 (by simp)
          have tbw14 := Tb.mono (tbw13.old _) hw14 (by simp)
          have tcw14 := Tb.mono (tcw13.old _) hw14 (by simp)
          have tsw14 := Tb.mono (tsw13.old _) hw14 (by simp)
          have txw14 := Tb.mono (txw13.old _) hw14 (by simp)
          have tyw14 := Tb.mono (Tb.new w13 #[.int .u8 0, .bool false, .slice none 0 0, .string ⟨#[]⟩, .int .i64 0, .slice none 0 0, .slice none 0 0] _ rfl) hw14 (by simp)
          have iaw14 : Hid _ := TI.mono (Hid.out iaw13) Vw14
          have ibw14 : Hid _ := TI.mono (Hid.out ibw13) Vw14
          have icw14 : Hid _ := TI.mono (Hid.out icw13) Vw14
          have isw14 : Hid _ := TI.mono (Hid.out isw13) Vw14
          have ixw14 : Hid _ := TI.mono (Hid.out ixw13) Vw14
          have Uw14 : Hid _ := Upd.trans (Hid.out Uw13) Vw14
          clear hw14 Vw14 taw13 tbw13 tcw13 tsw13 txw13 iaw13 ibw13 icw13 isw13 ixw13 Uw13
          go_wp2
          go_ret
          exact ⟨rfl, (Upd.alloc (Hid.out Uw14) _)⟩
      · have taw12 := Tb.mono taw11 hw12 (by simp)
        have tbw12 := Tb.mono tbw11 hw12 (by simp)
        have tcw12 := Tb.mono tcw11 hw12 (by simp)
        have tsw12 := Tb.mono tsw11 hw12 (by simp)
        have iaw12 : Hid _ := TI.mono (Hid.out iaw11) hw12
        have ibw12 : Hid _ := TI.mono (Hid.out ibw11) hw12
        have icw12 : Hid _ := TI.mono (Hid.out icw11) hw12
        have isw12 : Hid _ := TI.mono (Hid.out isw11) hw12
        have Uw12 : Hid _ := Upd.trans (Hid.out Uw11) hw12
        clear hw12 taw11 tbw11 tcw11 tsw11 iaw11 ibw11 icw11 isw11 Uw11
        go_wp2_with (first | (refine load_G _ _ rfl _ _ rfl (taw12.old _) rfl rfl ?_) | (refine load_G _ _ rfl _ _ rfl (tbw12.old _) rfl rfl ?_) | (refine load_G _ _ rfl _ _ rfl (tcw12.old _) rfl rfl ?_) | (refine load_G _ _ rfl _ _ rfl (tsw12.old _) rfl rfl ?_) | (refine load_G _ _ rfl _ _ rfl (Tb.new w12 _ _ rfl) rfl rfl ?_))
        refine (Times_any a0 ai0 at0 a2 ai2 at2 c0 ci0 ct0 c2 ci2 ct2 neg0 neg2 L0 L2 _ _ _ (TI.mono (Hid.out iaw12) ((Upd.refl [] w12).alloc _)) (TI.mono (Hid.out icw12) ((Upd.refl [] w12).alloc _))).mono ?_
        rintro e w13 ⟨hR, hw13⟩
        obtain ⟨ky, gy, ay, cy, My, boy, rfl, hy⟩ := hR.uni
        clear hR hy
        have Vw13 := ((Upd.refl [] w12).alloc _).trans hw13
        have taw13 := Tb.mono (taw12.old _) hw13 (by simp)
        have tbw13 := Tb.mono (tbw12.old _) hw13 (by simp)
        have tcw13 := Tb.mono (tcw12.old _) hw13 (by simp)
        have tsw13 := Tb.mono (tsw12.old _) hw13 (by simp)
        have txw13 := Tb.mono (Tb.new w12 #[.int .u8 0, .bool false, .slice none 0 0, .string ⟨#[]⟩, .int .i64 0, .slice none 0 0, .slice none 0 0] _ rfl) hw13 (by simp)
        have iaw13 : Hid _ := TI.mono (Hid.out iaw12) Vw13
        have ibw13 : Hid _ := TI.mono (Hid.out ibw12) Vw13
        have icw13 : Hid _ := TI.mono (Hid.out icw12) Vw13
        have isw13 : Hid _ := TI.mono (Hid.out isw12) Vw13
        have Uw13 : Hid _ := Upd.trans (Hid.out Uw12) Vw13
        clear hw13 Vw13 taw12 tbw12 tcw12 tsw12 iaw12 ibw12 icw12 isw12 Uw12
        go_wp2_with (first | (refine load_G _ _ rfl _ _ rfl (taw13.old _) rfl rfl ?_) | (refine load_G _ _ rfl _ _ rfl (tbw13.old _) rfl rfl ?_) | (refine load_G _ _ rfl _ _ rfl (tcw13.old _) rfl rfl ?_) | (refine load_G _ _ rfl _ _ rfl (tsw13.old _) rfl rfl ?_) | (refine load_G _ _ rfl _ _ rfl (txw13.old _) rfl rfl ?_) | (refine load_G _ _ rfl _ _ rfl (Tb.new w13 _ _ rfl) rfl rfl ?_))
        refine (Times_any a1 ai1 at1 a2 ai2 at2 c1 ci1 ct1 c2 ci2 ct2 neg1 neg2 L1 L2 _ _ _ (TI.mono (Hid.out ibw13) ((Upd.refl [] w13).alloc _)) (TI.mono (Hid.out icw13) ((Upd.refl [] w13).alloc _))).mono ?_
        rintro e w14 ⟨hR, hw14⟩
        obtain ⟨kz, gz, az, cz, Mz, boz, rfl, hz⟩ := hR.uni
        clear hR hz
        have Vw14 := ((Upd.refl [] w13).alloc _).trans hw14
        have taw14 := Tb.mono (taw13.old _) hw14 (by simp)
        have tbw14 := Tb.mono (tbw13.old _) hw14 (by simp)
        have tcw14 := Tb.mono (tcw13.old _) hw14 (by simp)
        have tsw14 := Tb.mono (tsw13.old _) hw14 (by simp)
        have txw14 := Tb.mono (txw13.old _) hw14 (by simp)
        have tyw14 := Tb.mono (Tb.new w13 #[.int .u8 ky, .bool gy, .slice ay My.length cy, .string ⟨#[]⟩, .int .i64 0, .slice none 0 0, .slice none 0 0] _ rfl) hw14 (by simp)
        have iaw14 : Hid _ := TI.mono (Hid.out iaw13) Vw14
        have ibw14 : Hid _ := TI.mono (Hid.out ibw13) Vw14
        have icw14 : Hid _ := TI.mono (Hid.out icw13) Vw14
        have isw14 : Hid _ := TI.mono (Hid.out isw13) Vw14
        have Uw14 : Hid _ := Upd.trans (Hid.out Uw13) Vw14
        clear hw14 Vw14 taw13 tbw13 tcw13 tsw13 txw13 iaw13 ibw13 icw13 isw13 Uw13
        go_wp2
        go_ret
        exact ⟨rfl, (Upd.alloc (Hid.out Uw14) _)⟩
  · have taw5 := Tb.mono taw4 hw5 (by simp)
    have tbw5 := Tb.mono tbw4 hw5 (by simp)
    have tcw5 := Tb.mono tcw4 hw5 (by simp)
    have iaw5 : Hid _ := TI.mono (Hid.out iaw4) hw5
    have ibw5 : Hid _ := TI.mono (Hid.out ibw4) hw5
    have icw5 : Hid _ := TI.mono (Hid.out icw4) hw5
    have Uw5 : Hid _ := Upd.trans (Hid.out Uw4) hw5
    clear hw5 taw4 tbw4 tcw4 iaw4 ibw4 icw4 Uw4
    go_wp2_with (first | (refine load_G _ _ rfl _ _ rfl (taw5.old _) rfl rfl ?_) | (refine load_G _ _ rfl _ _ rfl (tbw5.old _) rfl rfl ?_) | (refine load_G _ _ rfl _ _ rfl (tcw5.old _) rfl rfl ?_) | (refine load_G _ _ rfl _ _ rfl (Tb.new w5 _ _ rfl) rfl rfl ?_))
    refine (Add_any a1 ai1 at1 a0 ai0 at0 c1 ci1 ct1 c0 ci0 ct0 neg1 neg0 L1 L0 _ _ _ (TI.mono (Hid.out ibw5) ((Upd.refl [] w5).alloc _)) (TI.mono (Hid.out iaw5) ((Upd.refl [] w5).alloc _))).mono ?_
    rintro e w6 ⟨hR, hw6⟩
    rw [Int.add_comm z1 z0] at hR
    obtain ⟨_, rfl⟩ := hR.resolve_left (fun h => hs1 h.1)
    clear hR hs1
    have Vw6 := ((Upd.refl [] w5).alloc _).trans hw6
    have taw6 := Tb.mono (taw5.old _) hw6 (by simp)
    have tbw6 := Tb.mono (tbw5.old _) hw6 (by simp)
    have tcw6 := Tb.mono (tcw5.old _) hw6 (by simp)
    have tsw6 := Tb.mono (Tb.new w5 #[.int .u8 0, .bool false, .slice none 0 0, .string ⟨#[]⟩, .int .i64 0, .slice none 0 0, .slice none 0 0] _ rfl) hw6 (by simp)
    have iaw6 : Hid _ := TI.mono (Hid.out iaw5) Vw6
    have ibw6 : Hid _ := TI.mono (Hid.out ibw5) Vw6
    have icw6 : Hid _ := TI.mono (Hid.out icw5) Vw6
    have Uw6 : Hid _ := Upd.trans (Hid.out Uw5) Vw6
    clear hw6 Vw6 taw5 tbw5 tcw5 iaw5 ibw5 icw5 Uw5
    go_wp2_with (first | (refine load_G _ _ rfl _ _ rfl (taw6.old _) rfl rfl ?_) | (refine load_G _ _ rfl _ _ rfl (tbw6.old _) rfl rfl ?_) | (refine load_G _ _ rfl _ _ rfl (tcw6.old _) rfl rfl ?_) | (refine load_G _ _ rfl _ _ rfl (tsw6.old _) rfl rfl ?_) | (refine load_G _ _ rfl _ _ rfl (Tb.new w6 _ _ rfl) rfl rfl ?_))
    refine (Times_any a0 ai0 at0 a1 ai1 at1 c0 ci0 ct0 c1 ci1 ct1 neg0 neg1 L0 L1 _ _ _ (TI.mono (Hid.out iaw6) ((Upd.refl [] w6).alloc _)) (TI.mono (Hid.out ibw6) ((Upd.refl [] w6).alloc _))).mono ?_
    rintro e w7 ⟨hR, hw7⟩
    rcases hR with ⟨hs2, gp, ap, cp, Mp, rfl, Tp⟩ | ⟨hs2, rfl⟩
    · have ip : Hid _ := Tp
      clear Tp
      have Vw7 := ((Upd.refl [] w6).alloc _).trans hw7
      have taw7 := Tb.mono (taw6.old _) hw7 (by simp)
      have tbw7 := Tb.mono (tbw6.old _) hw7 (by simp)
      have tcw7 := Tb.mono (tcw6.old _) hw7 (by simp)
      have tsw7 := Tb.mono (tsw6.old _) hw7 (by simp)
      have ttw7 := Tb.mono (Tb.new w6 #[.int .u8 0, .bool false, .slice none 0 0, .string ⟨#[]⟩, .int .i64 0, .slice none 0 0, .slice none 0 0] _ rfl) hw7 (by simp)
      have iaw7 : Hid _ := TI.mono (Hid.out iaw6) Vw7
      have ibw7 : Hid _ := TI.mono (Hid.out ibw6) Vw7
      have icw7 : Hid _ := TI.mono (Hid.out icw6) Vw7
      have Uw7 : Hid _ := Upd.trans (Hid.out Uw6) Vw7
      clear hw7 Vw7 taw6 tbw6 tcw6 tsw6 iaw6 ibw6 icw6 Uw6
      go_wp2_with (first | (refine load_G _ _ rfl _ _ rfl (taw7.old _) rfl rfl ?_) | (refine load_G _ _ rfl _ _ rfl (tbw7.old _) rfl rfl ?_) | (refine load_G _ _ rfl _ _ rfl (tcw7.old _) rfl rfl ?_) | (refine load_G _ _ rfl _ _ rfl (tsw7.old _) rfl rfl ?_) | (refine load_G _ _ rfl _ _ rfl (ttw7.old _) rfl rfl ?_) | (refine load_G _ _ rfl _ _ rfl (Tb.new w7 _ _ rfl) rfl rfl ?_))
      refine (Times_any a1 ai1 at1 a0 ai0 at0 c1 ci1 ct1 c0 ci0 ct0 neg1 neg0 L1 L0 _ _ _ (TI.mono (Hid.out ibw7) ((Upd.refl [] w7).alloc _)) (TI.mono (Hid.out iaw7) ((Upd.refl [] w7).alloc _))).mono ?_
      rintro e w8 ⟨hR, hw8⟩
      rw [Int.mul_comm z1 z0] at hR
      obtain ⟨_, gq, aq, cq, Mq, rfl, Tq⟩ := hR.resolve_right (fun h => h.1 hs2)
      have iq : Hid _ := Tq
      clear Tq hR hs2
      have Vw8 := ((Upd.refl [] w7).alloc _).trans hw8
      have taw8 := Tb.mono (taw7.old _) hw8 (by simp)
      have tbw8 := Tb.mono (tbw7.old _) hw8 (by simp)
      have tcw8 := Tb.mono (tcw7.old _) hw8 (by simp)
      have tsw8 := Tb.mono (tsw7.old _) hw8 (by simp)
      have ttw8 := Tb.mono (ttw7.old _) hw8 (by simp)
      have tpw8 := Tb.mono (Tb.new w7 #[.int .u8 1, .bool gp, .slice ap Mp.length cp, .string ⟨#[]⟩, .int .i64 0, .slice none 0 0, .slice none 0 0] _ rfl) hw8 (by simp)
      have iaw8 : Hid _ := TI.mono (Hid.out iaw7) Vw8
      have ibw8 : Hid _ := TI.mono (Hid.out ibw7) Vw8
      have icw8 : Hid _ := TI.mono (Hid.out icw7) Vw8
      have ipw8 : Hid _ := TI.mono (Hid.out ip) Vw8
      have Uw8 : Hid _ := Upd.trans (Hid.out Uw7) Vw8
      clear hw8 Vw8 taw7 tbw7 tcw7 tsw7 ttw7 iaw7 ibw7 icw7 ip Uw7
      go_wp2_with (first | (refine load_G _ _ rfl _ _ rfl (taw8.old _) rfl rfl ?_) | (refine load_G _ _ rfl _ _ rfl (tbw8.old _) rfl rfl ?_) | (refine load_G _ _ rfl _ _ rfl (tcw8.old _) rfl rfl ?_) | (refine load_G _ _ rfl _ _ rfl (tsw8.old _) rfl rfl ?_) | (refine load_G _ _ rfl _ _ rfl (ttw8.old _) rfl rfl ?_) | (refine load_G _ _ rfl _ _ rfl (tpw8.old _) rfl rfl ?_) | (refine load_G _ _ rfl _ _ rfl (Tb.new w8 _ _ rfl) rfl rfl ?_))
      refine (Compare_any ap none none aq none none cp 0 0 cq 0 0 gp gq Mp Mq _ _ _ (TI.mono (Hid.out ipw8) ((Upd.refl [] w8).alloc _)) (TI.mono (Hid.out iq) ((Upd.refl [] w8).alloc _))).mono ?_
      rintro e w9 ⟨rfl, hw9⟩
      rw [show cmpZ (z0 * z1) (z0 * z1) = 0 by unfold cmpZ; simp]
      have Vw9 := ((Upd.refl [] w8).alloc _).trans hw9
      have taw9 := Tb.mono (taw8.old _) hw9 (by simp)
      have tbw9 := Tb.mono (tbw8.old _) hw9 (by simp)
      have tcw9 := Tb.mono (tcw8.old _) hw9 (by simp)
      have tsw9 := Tb.mono (tsw8.old _) hw9 (by simp)
      have ttw9 := Tb.mono (ttw8.old _) hw9 (by simp)
      have tpw9 := Tb.mono (tpw8.old _) hw9 (by simp)
      have tqw9 := Tb.mono (Tb.new w8 #[.int .u8 1, .bool gq, .slice aq Mq.length cq, .string ⟨#[]⟩, .int .i64 0, .slice none 0 0, .slice none 0 0] _ rfl) hw9 (by simp)
      have iaw9 : Hid _ := TI.mono (Hid.out iaw8) Vw9
      have ibw9 : Hid _ := TI.mono (Hid.out ibw8) Vw9
      have icw9 : Hid _ := TI.mono (Hid.out icw8) Vw9
      have ipw9 : Hid _ := TI.mono (Hid.out ipw8) Vw9
      have iqw9 : Hid _ := TI.mono (Hid.out iq) Vw9
      have Uw9 : Hid _ := Upd.trans (Hid.out Uw8) Vw9
      clear hw9 Vw9 taw8 tbw8 tcw8 tsw8 ttw8 tpw8 iaw8 ibw8 icw8 ipw8 iq Uw8
      clear tpw9 ipw9 tqw9 iqw9 ttw9
      go_wp2_with (first | (refine load_G _ _ rfl _ _ rfl taw9 rfl rfl ?_) | (refine load_G _ _ rfl _ _ rfl tbw9 rfl rfl ?_) | (refine load_G _ _ rfl _ _ rfl tcw9 rfl rfl ?_) | (refine load_G _ _ rfl _ _ rfl tsw9 rfl rfl ?_))
      refine (Times_badA 0 0 1 0 false neg2 [] L2 ⟨#[]⟩ ⟨#[]⟩ none none none a2 ai2 at2 0 0 0 0 0 c2 0 ci2 0 ct2 _ (by simp) (At.nil _ _) (by omega) (by omega) rfl).mono ?_
      rintro e w10 ⟨rfl, hw10⟩
      have taw10 := Tb.mono taw9 hw10 (by simp)
      have tbw10 := Tb.mono tbw9 hw10 (by simp)
      have tcw10 := Tb.mono tcw9 hw10 (by simp)
      have tsw10 := Tb.mono tsw9 hw10 (by simp)
      have iaw10 : Hid _ := TI.mono (Hid.out iaw9) hw10
      have ibw10 : Hid _ := TI.mono (Hid.out ibw9) hw10
      have icw10 : Hid _ := TI.mono (Hid.out icw9) hw10
      have Uw10 : Hid _ := Upd.trans (Hid.out Uw9) hw10
      clear hw10 taw9 tbw9 tcw9 tsw9 iaw9 ibw9 icw9 Uw9
      go_wp2_with (first | (refine load_G _ _ rfl _ _ rfl (taw10.old _) rfl rfl ?_) | (refine load_G _ _ rfl _ _ rfl (tbw10.old _) rfl rfl ?_) | (refine load_G _ _ rfl _ _ rfl (tcw10.old _) rfl rfl ?_) | (refine load_G _ _ rfl _ _ rfl (tsw10.old _) rfl rfl ?_) | (refine load_G _ _ rfl _ _ rfl (Tb.new w10 _ _ rfl) rfl rfl ?_))
      refine (Times_any a0 ai0 at0 a2 ai2 at2 c0 ci0 ct0 c2 ci2 ct2 neg0 neg2 L0 L2 _ _ _ (TI.mono (Hid.out iaw10) ((Upd.refl [] w10).alloc _)) (TI.mono (Hid.out icw10) ((Upd.refl [] w10).alloc _))).mono ?_
      rintro e w11 ⟨hR, hw11⟩
      obtain ⟨ky, gy, ay, cy, My, boy, rfl, hy⟩ := hR.uni
      clear hR hy
      have Vw11 := ((Upd.refl [] w10).alloc _).trans hw11
      have taw11 := Tb.mono (taw10.old _) hw11 (by simp)
      have tbw11 := Tb.mono (tbw10.old _) hw11 (by simp)
      have tcw11 := Tb.mono (tcw10.old _) hw11 (by simp)
      have tsw11 := Tb.mono (tsw10.old _) hw11 (by simp)
      have txw11 := Tb.mono (Tb.new w10 #[.int .u8 0, .bool false, .slice none 0 0, .string ⟨#[]⟩, .int .i64 0, .slice none 0 0, .slice none 0 0] _ rfl) hw11 (by simp)
      have iaw11 : Hid _ := TI.mono (Hid.out iaw10) Vw11
      have ibw11 : Hid _ := TI.mono (Hid.out ibw10) Vw11
      have icw11 : Hid _ := TI.mono (Hid.out icw10) Vw11
      have Uw11 : Hid _ := Upd.trans (Hid.out Uw10) Vw11
      clear hw11 Vw11 taw10 tbw10 tcw10 tsw10 iaw10 ibw10 icw10 Uw10
      go_wp2_with (first | (refine load_G _ _ rfl _ _ rfl (taw11.old _) rfl rfl ?_) | (refine load_G _ _ rfl _ _ rfl (tbw11.old _) rfl rfl ?_) | (refine load_G _ _ rfl _ _ rfl (tcw11.old _) rfl rfl ?_) | (refine load_G _ _ rfl _ _ rfl (tsw11.old _) rfl rfl ?_) | (refine load_G _ _ rfl _ _ rfl (txw11.old _) rfl rfl ?_) | (refine load_G _ _ rfl _ _ rfl (Tb.new w11 _ _ rfl) rfl rfl ?_))
      refine (Times_any a1 ai1 at1 a2 ai2 at2 c1 ci1 ct1 c2 ci2 ct2 neg1 neg2 L1 L2 _ _ _ (TI.mono (Hid.out ibw11) ((Upd.refl [] w11).alloc _)) (TI.mono (Hid.out icw11) ((Upd.refl [] w11).alloc _))).mono ?_
      rintro e w12 ⟨hR, hw12⟩
      obtain ⟨kz, gz, az, cz, Mz, boz, rfl, hz⟩ := hR.uni
      clear hR hz
      have Vw12 := ((Upd.refl [] w11).alloc _).trans hw12
      have taw12 := Tb.mono (taw11.old _) hw12 (by simp)
      have tbw12 := Tb.mono (tbw11.old _) hw12 (by simp)
      have tcw12 := Tb.mono (tcw11.old _) hw12 (by simp)
      have tsw12 := Tb.mono (tsw11.old _) hw12 (by simp)
      have txw12 := Tb.mono (txw11.old _) hw12 (by simp)
      have tyw12 := Tb.mono (Tb.new w11 #[.int .u8 ky, .bool gy, .slice ay My.length cy, .string ⟨#[]⟩, .int .i64 0, .slice none 0 0, .slice none 0 0] _ rfl) hw12 (by simp)
      have iaw12 : Hid _ := TI.mono (Hid.out iaw11) Vw12
      have ibw12 : Hid _ := TI.mono (Hid.out ibw11) Vw12
      have icw12 : Hid _ := TI.mono (Hid.out icw11) Vw12
      have Uw12 : Hid _ := Upd.trans (Hid.out Uw11) Vw12
      clear hw12 Vw12 taw11 tbw11 tcw11 tsw11 txw11 iaw11 ibw11 icw11 Uw11
      go_wp2
      go_ret
      exact ⟨rfl, (Upd.alloc (Hid.out Uw12) _)⟩
    · have Vw7 := ((Upd.refl [] w6).alloc _).trans hw7
      have taw7 := Tb.mono (taw6.old _) hw7 (by simp)
      have tbw7 := Tb.mono (tbw6.old _) hw7 (by simp)
      have tcw7 := Tb.mono (tcw6.old _) hw7 (by simp)
      have tsw7 := Tb.mono (tsw6.old _) hw7 (by simp)
      have ttw7 := Tb.mono (Tb.new w6 #[.int .u8 0, .bool false, .slice none 0 0, .string ⟨#[]⟩, .int .i64 0, .slice none 0 0, .slice none 0 0] _ rfl) hw7 (by simp)
      have iaw7 : Hid _ := TI.mono (Hid.out iaw6) Vw7
      have ibw7 : Hid _ := TI.mono (Hid.out ibw6) Vw7
      have icw7 : Hid _ := TI.mono (Hid.out icw6) Vw7
      have Uw7 : Hid _ := Upd.trans (Hid.out Uw6) Vw7
      clear hw7 Vw7 taw6 tbw6 tcw6 tsw6 iaw6 ibw6 icw6 Uw6
      go_wp2_with (first | (refine load_G _ _ rfl _ _ rfl (taw7.old _) rfl rfl ?_) | (refine load_G _ _ rfl _ _ rfl (tbw7.old _) rfl rfl ?_) | (refine load_G _ _ rfl _ _ rfl (tcw7.old _) rfl rfl ?_) | (refine load_G _ _ rfl _ _ rfl (tsw7.old _) rfl rfl ?_) | (refine load_G _ _ rfl _ _ rfl (ttw7.old _) rfl rfl ?_) | (refine load_G _ _ rfl _ _ rfl (Tb.new w7 _ _ rfl) rfl rfl ?_))
      refine (Times_any a1 ai1 at1 a0 ai0 at0 c1 ci1 ct1 c0 ci0 ct0 neg1 neg0 L1 L0 _ _ _ (TI.mono (Hid.out ibw7) ((Upd.refl [] w7).alloc _)) (TI.mono (Hid.out iaw7) ((Upd.refl [] w7).alloc _))).mono ?_
      rintro e w8 ⟨hR, hw8⟩
      rw [Int.mul_comm z1 z0] at hR
      obtain ⟨_, rfl⟩ := hR.resolve_left (fun h => hs2 h.1)
      clear hR hs2
      have Vw8 := ((Upd.refl [] w7).alloc _).trans hw8
      have taw8 := Tb.mono (taw7.old _) hw8 (by simp)
      have tbw8 := Tb.mono (tbw7.old _) hw8 (by simp)
      have tcw8 := Tb.mono (tcw7.old _) hw8 (by simp)
      have tsw8 := Tb.mono (tsw7.old _) hw8 (by simp)
      have ttw8 := Tb.mono (ttw7.old _) hw8 (by simp)
      have tpw8 := Tb.mono (Tb.new w7 #[.int .u8 0, .bool false, .slice none 0 0, .string ⟨#[]⟩, .int .i64 0, .slice none 0 0, .slice none 0 0] _ rfl) hw8 (by simp)
      have iaw8 : Hid _ := TI.mono (Hid.out iaw7) Vw8
      have ibw8 : Hid _ := TI.mono (Hid.out ibw7) Vw8
      have icw8 : Hid _ := TI.mono (Hid.out icw7) Vw8
      have Uw8 : Hid _ := Upd.trans (Hid.out Uw7) Vw8
      clear hw8 Vw8 taw7 tbw7 tcw7 tsw7 ttw7 iaw7 ibw7 icw7 Uw7
      clear tpw8 ttw8
      go_wp2_with (first | (refine load_G _ _ rfl _ _ rfl (taw8.old _) rfl rfl ?_) | (refine load_G _ _ rfl _ _ rfl (tbw8.old _) rfl rfl ?_) | (refine load_G _ _ rfl _ _ rfl (tcw8.old _) rfl rfl ?_) | (refine load_G _ _ rfl _ _ rfl (tsw8.old _) rfl rfl ?_) | (refine load_G _ _ rfl _ _ rfl (Tb.new w8 _ _ rfl) rfl rfl ?_))
      refine (Times_badA 0 0 1 0 false neg2 [] L2 ⟨#[]⟩ ⟨#[]⟩ none none none a2 ai2 at2 0 0 0 0 0 c2 0 ci2 0 ct2 _ (by simp) (At.nil _ _) (by omega) (by omega) rfl).mono ?_
      rintro e w9 ⟨rfl, hw9⟩
      have Vw9 := ((Upd.refl [] w8).alloc _).trans hw9
      have taw9 := Tb.mono (taw8.old _) hw9 (by simp)
      have tbw9 := Tb.mono (tbw8.old _) hw9 (by simp)
      have tcw9 := Tb.mono (tcw8.old _) hw9 (by simp)
      have tsw9 := Tb.mono (tsw8.old _) hw9 (by simp)
      have tqw9 := Tb.mono (Tb.new w8 #[.int .u8 0, .bool false, .slice none 0 0, .string ⟨#[]⟩, .int .i64 0, .slice none 0 0, .slice none 0 0] _ rfl) hw9 (by simp)
      have iaw9 : Hid _ := TI.mono (Hid.out iaw8) Vw9
      have ibw9 : Hid _ := TI.mono (Hid.out ibw8) Vw9
      have icw9 : Hid _ := TI.mono (Hid.out icw8) Vw9
      have Uw9 : Hid _ := Upd.trans (Hid.out Uw8) Vw9
      clear hw9 Vw9 taw8 tbw8 tcw8 tsw8 iaw8 ibw8 icw8 Uw8
      go_wp2_with (first | (refine load_G _ _ rfl _ _ rfl (taw9.old _) rfl rfl ?_) | (refine load_G _ _ rfl _ _ rfl (tbw9.old _) rfl rfl ?_) | (refine load_G _ _ rfl _ _ rfl (tcw9.old _) rfl rfl ?_) | (refine load_G _ _ rfl _ _ rfl (tsw9.old _) rfl rfl ?_) | (refine load_G _ _ rfl _ _ rfl (tqw9.old _) rfl rfl ?_) | (refine load_G _ _ rfl _ _ rfl (Tb.new w9 _ _ rfl) rfl rfl ?_))
      refine (Times_any a0 ai0 at0 a2 ai2 at2 c0 ci0 ct0 c2 ci2 ct2 neg0 neg2 L0 L2 _ _ _ (TI.mono (Hid.out iaw9) ((Upd.refl [] w9).alloc _)) (TI.mono (Hid.out icw9) ((Upd.refl [] w9).alloc _))).mono ?_
      rintro e w10 ⟨hR, hw10⟩
      obtain ⟨ky, gy, ay, cy, My, boy, rfl, hy⟩ := hR.uni
      clear hR hy
      have Vw10 := ((Upd.refl [] w9).alloc _).trans hw10
      have taw10 := Tb.mono (taw9.old _) hw10 (by simp)
      have tbw10 := Tb.mono (tbw9.old _) hw10 (by simp)
      have tcw10 := Tb.mono (tcw9.old _) hw10 (by simp)
      have tsw10 := Tb.mono (tsw9.old _) hw10 (by simp)
      have tqw10 := Tb.mono (tqw9.old _) hw10 (by simp)
      have txw10 := Tb.mono (Tb.new w9 #[.int .u8 0, .bool false, .slice none 0 0, .string ⟨#[]⟩, .int .i64 0, .slice none 0 0, .slice none 0 0] _ rfl) hw10 (by simp)
      have iaw10 : Hid _ := TI.mono (Hid.out iaw9) Vw10
      have ibw10 : Hid _ := TI.mono (Hid.out ibw9) Vw10
      have icw10 : Hid _ := TI.mono (Hid.out icw9) Vw10
      have Uw10 : Hid _ := Upd.trans (Hid.out Uw9) Vw10
      clear hw10 Vw10 taw9 tbw9 tcw9 tsw9 tqw9 iaw9 ibw9 icw9 Uw9
      go_wp2_with (first | (refine load_G _ _ rfl _ _ rfl (taw10.old _) rfl rfl ?_) | (refine load_G _ _ rfl _ _ rfl (tbw10.old _) rfl rfl ?_) | (refine load_G _ _ rfl _ _ rfl (tcw10.old _) rfl rfl ?_) | (refine load_G _ _ rfl _ _ rfl (tsw10.old _) rfl rfl ?_) | (refine load_G _ _ rfl _ _ rfl (tqw10.old _) rfl rfl ?_) | (refine load_G _ _ rfl _ _ rfl (txw10.old _) rfl rfl ?_) | (refine load_G _ _ rfl _ _ rfl (Tb.new w10 _ _ rfl) rfl rfl ?_))
      refine (Times_any a1 ai1 at1 a2 ai2 at2 c1 ci1 ct1 c2 ci2 ct2 neg1 neg2 L1 L2 _ _ _ (TI.mono (Hid.out ibw10) ((Upd.refl [] w10).alloc _)) (TI.mono (Hid.out icw10) ((Upd.refl [] w10).alloc _))).mono ?_
      rintro e w11 ⟨hR, hw11⟩
      obtain ⟨kz, gz, az, cz, Mz, boz, rfl, hz⟩ := hR.uni
      clear hR hz
      have Vw11 := ((Upd.refl [] w10).alloc _).trans hw11
      have taw11 := Tb.mono (taw10.old _) hw11 (by simp)
      have tbw11 := Tb.mono (tbw10.old _) hw11 (by simp)
      have tcw11 := Tb.mono (tcw10.old _) hw11 (by simp)
      have tsw11 := Tb.mono (tsw10.old _) hw11 (by simp)
      have tqw11 := Tb.mono (tqw10.old _) hw11 (by simp)
      have txw11 := Tb.mono (txw10.old _) hw11 (by simp)
      have tyw11 := Tb.mono (Tb.new w10 #[.int .u8 ky, .bool gy, .slice ay My.length cy, .string ⟨#[]⟩, .int .i64 0, .slice none 0 0, .slice none 0 0] _ rfl) hw11 (by simp)
      have iaw11 : Hid _ := TI.mono (Hid.out iaw10) Vw11
      have ibw11 : Hid _ := TI.mono (Hid.out ibw10) Vw11
      have icw11 : Hid _ := TI.mono (Hid.out icw10) Vw11
      have Uw11 : Hid _ := Upd.trans (Hid.out Uw10) Vw11
      clear hw11 Vw11 taw10 tbw10 tcw10 tsw10 tqw10 txw10 iaw10 ibw10 icw10 Uw10
      go_wp2
      go_ret
      exact ⟨rfl, (Upd.alloc (Hid.out Uw11) _)⟩

end Go.Proofs.YtafelokgaldaoaaDoor
