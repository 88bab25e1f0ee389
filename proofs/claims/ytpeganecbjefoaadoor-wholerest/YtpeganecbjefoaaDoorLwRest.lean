/- WholeRest, walked: the right arguments. -/
import Derived.Test.YtpeganecbjefoaaDoorRestH
import Derived.Deep.DeepCutAuto
import Derived.Deep.RegionHeld3
namespace Go.Proofs.YtpeganecbjefoaaDoor
open Go.RowKit

set_option maxHeartbeats 8000000 in
set_option maxRecDepth 100000 in
theorem WholeRest_right (neg0 : Bool) (a0 ai0 at0 : Option Addr) (L0 : List Nat) (c0 ci0 ct0 : Nat) (z0 : Int) (neg1 : Bool) (a1 ai1 at1 : Option Addr) (L1 : List Nat) (c1 ci1 ct1 : Nat) (z1 : Int) (w : World) (T0' : TI w neg0 a0 L0 z0) (T1' : TI w neg1 a1 L1 z1) (hz : z1 ≠ 0) :
    Calls Tryd.prog 6 #[.agg #[.int .u8 1, .bool neg0, .slice a0 L0.length c0, .string ⟨#[]⟩, .int .i64 0, .slice ai0 0 ci0, .slice at0 0 ct0], .agg #[.int .u8 1, .bool neg1, .slice a1 L1.length c1, .string ⟨#[]⟩, .int .i64 0, .slice ai1 0 ci1, .slice at1 0 ct1]] w fun e w' => e = .returned (.bool true) ∧ Upd [] w w' := by
  have hlen := Len.ne T1'.norm hz
  have T0 : Hid _ := T0'
  have T1 : Hid _ := T1'
  have HZ : Hid (z1 ≠ 0) := hz
  clear T0' T1' hz
  go_enter Tryd.func6, Tryd.ntmps6
  go_wp2_with fail
  refine (awake_any _).mono ?_
  rintro e w1 ⟨rfl, hw1⟩
  have V1 := (((Upd.refl [] w).alloc _).alloc _).trans hw1
  have ta1 := Tb.mono ((Tb.new w #[.int .u8 1, .bool neg0, .slice a0 L0.length c0, .string ⟨#[]⟩, .int .i64 0, .slice ai0 0 ci0, .slice at0 0 ct0] _ rfl).old _) hw1 (by simp)
  have tb1 := Tb.mono (Tb.new (w.alloc _) #[.int .u8 1, .bool neg1, .slice a1 L1.length c1, .string ⟨#[]⟩, .int .i64 0, .slice ai1 0 ci1, .slice at1 0 ct1] (w.heap.size + 1) (by simp)) hw1 (by simp)
  have ia1 : Hid _ := TI.mono (Hid.out T0) V1
  have ib1 : Hid _ := TI.mono (Hid.out T1) V1
  have U1 : Hid _ := V1
  clear V1 hw1
  go_wp2_with (first | (refine load_G _ _ rfl _ _ rfl ta1 rfl rfl ?_) | (refine load_G _ _ rfl _ _ rfl tb1 rfl rfl ?_))
  refine (TI.rightU (Hid.out ia1) ai0 at0 c0 ci0 ct0).mono ?_
  rintro e w2 ⟨rfl, hw2⟩
  have taw2 := Tb.mono ta1 hw2 (by simp)
  have tbw2 := Tb.mono tb1 hw2 (by simp)
  have iaw2 : Hid _ := TI.mono (Hid.out ia1) hw2
  have ibw2 : Hid _ := TI.mono (Hid.out ib1) hw2
  have Uw2 : Hid _ := Upd.trans (Hid.out U1) hw2
  clear hw2 ta1 tb1 ia1 ib1 U1
  go_wp2_with (first | (refine load_G _ _ rfl _ _ rfl taw2 rfl rfl ?_) | (refine load_G _ _ rfl _ _ rfl tbw2 rfl rfl ?_))
  refine (TI.rightU (Hid.out ibw2) ai1 at1 c1 ci1 ct1).mono ?_
  rintro e w3 ⟨rfl, hw3⟩
  have taw3 := Tb.mono taw2 hw3 (by simp)
  have tbw3 := Tb.mono tbw2 hw3 (by simp)
  have iaw3 : Hid _ := TI.mono (Hid.out iaw2) hw3
  have ibw3 : Hid _ := TI.mono (Hid.out ibw2) hw3
  have Uw3 : Hid _ := Upd.trans (Hid.out Uw2) hw3
  clear hw3 taw2 tbw2 iaw2 ibw2 Uw2
  have cl := tbw3.cell 2
  go_wp2_with (first | (refine load_G _ _ rfl _ _ rfl taw3 rfl rfl ?_) | (refine load_G _ _ rfl _ _ rfl tbw3 rfl rfl ?_))
  refine (Div_any a0 ai0 at0 a1 ai1 at1 c0 ci0 ct0 c1 ci1 ct1 neg0 neg1 L0 L1 _ _ _ (Hid.out iaw3) (Hid.out ibw3) (Hid.out HZ)).mono ?_
  rintro e w4 ⟨hw4, gq, gr, aq, ar, cq, cr, Mq, Mr, rfl, Tq, Tr⟩
  clear cl
  have iq : Hid _ := Tq
  have ir : Hid _ := Tr
  clear Tq Tr
  have taw4 := Tb.mono taw3 hw4 (by simp)
  have tbw4 := Tb.mono tbw3 hw4 (by simp)
  have iaw4 : Hid _ := TI.mono (Hid.out iaw3) hw4
  have ibw4 : Hid _ := TI.mono (Hid.out ibw3) hw4
  have Uw4 : Hid _ := Upd.trans (Hid.out Uw3) hw4
  clear hw4 taw3 tbw3 iaw3 ibw3 Uw3
  go_wp2_with (first | (refine load_G _ _ rfl _ _ rfl ((taw4.old _).old _) rfl rfl ?_) | (refine load_G _ _ rfl _ _ rfl ((tbw4.old _).old _) rfl rfl ?_) | (refine load_G _ _ rfl _ _ rfl ((Tb.new w4 _ _ rfl).old _) rfl rfl ?_) | (refine load_G _ _ rfl _ _ rfl (Tb.new (w4.alloc _) _ _ (by simp)) rfl rfl ?_))
  refine (Times_any aq none none a1 ai1 at1 cq 0 0 c1 ci1 ct1 gq neg1 Mq L1 _ _ _ (TI.mono (Hid.out iq) (((Upd.refl [] w4).alloc _).alloc _)) (TI.mono (Hid.out ibw4) (((Upd.refl [] w4).alloc _).alloc _))).mono ?_
  rintro e w5 ⟨hR, hw5⟩
  obtain ⟨_, gp, ap, cp, Mp, rfl, Tp⟩ := hR.resolve_right (fun h => h.1 (tdiv_fit z0 z1 (Hid.out iaw4).small))
  have ip : Hid _ := Tp
  clear Tp hR
  have Vw5 := (((Upd.refl [] w4).alloc _).alloc _).trans hw5
  have taw5 := Tb.mono ((taw4.old _).old _) hw5 (by simp)
  have tbw5 := Tb.mono ((tbw4.old _).old _) hw5 (by simp)
  have tqw5 := Tb.mono ((Tb.new w4 #[.int .u8 1, .bool gq, .slice aq Mq.length cq, .string ⟨#[]⟩, .int .i64 0, .slice none 0 0, .slice none 0 0] _ rfl).old _) hw5 (by simp)
  have trw5 := Tb.mono (Tb.new (w4.alloc _) #[.int .u8 1, .bool gr, .slice ar Mr.length cr, .string ⟨#[]⟩, .int .i64 0, .slice none 0 0, .slice none 0 0] (w4.heap.size + 1) (by simp)) hw5 (by simp)
  have iaw5 : Hid _ := TI.mono (Hid.out iaw4) Vw5
  have ibw5 : Hid _ := TI.mono (Hid.out ibw4) Vw5
  have iqw5 : Hid _ := TI.mono (Hid.out iq) Vw5
  have irw5 : Hid _ := TI.mono (Hid.out ir) Vw5
  have Uw5 : Hid _ := Upd.trans (Hid.out Uw4) Vw5
  clear hw5 Vw5 taw4 tbw4 iaw4 ibw4 iq ir Uw4
  go_upto_region 8 with (first | (refine load_G _ _ rfl _ _ rfl (taw5.old _) rfl rfl ?_) | (refine load_G _ _ rfl _ _ rfl (tbw5.old _) rfl rfl ?_) | (refine load_G _ _ rfl _ _ rfl (tqw5.old _) rfl rfl ?_) | (refine load_G _ _ rfl _ _ rfl (trw5.old _) rfl rfl ?_) | (refine load_G _ _ rfl _ _ rfl (Tb.new w5 _ _ rfl) rfl rfl ?_))
  go_cut [83] (fun s83 wx => s83 = .bool false ∧ Upd [] w wx ∧ Tb wx w.heap.size #[.int .u8 1, .bool neg0, .slice a0 L0.length c0, .string ⟨#[]⟩, .int .i64 0, .slice ai0 0 ci0, .slice at0 0 ct0] ∧ Tb wx (w.heap.size + 1) #[.int .u8 1, .bool neg1, .slice a1 L1.length c1, .string ⟨#[]⟩, .int .i64 0, .slice ai1 0 ci1, .slice at1 0 ct1] ∧ Tb wx (w4.heap.size + 1) #[.int .u8 1, .bool gr, .slice ar Mr.length cr, .string ⟨#[]⟩, .int .i64 0, .slice none 0 0, .slice none 0 0] ∧ Tb wx w5.heap.size #[.int .u8 1, .bool gp, .slice ap Mp.length cp, .string ⟨#[]⟩, .int .i64 0, .slice none 0 0, .slice none 0 0] ∧ TI wx neg0 a0 L0 z0 ∧ TI wx neg1 a1 L1 z1 ∧ TI wx gr ar Mr (z0.tmod z1) ∧ TI wx gp ap Mp (z0.tdiv z1 * z1))
  case first =>
    go_wp2_with (first | (refine load_G _ _ rfl _ _ rfl (taw5.old _) rfl rfl ?_) | (refine load_G _ _ rfl _ _ rfl (tbw5.old _) rfl rfl ?_) | (refine load_G _ _ rfl _ _ rfl (tqw5.old _) rfl rfl ?_) | (refine load_G _ _ rfl _ _ rfl (trw5.old _) rfl rfl ?_) | (refine load_G _ _ rfl _ _ rfl (Tb.new w5 _ _ rfl) rfl rfl ?_))
    refine (TI.rightU (TI.mono (Hid.out iqw5) ((Upd.refl [] w5).alloc _)) none none cq 0 0).mono ?_
    rintro e w6 ⟨rfl, hw6⟩
    have Vw6 := ((Upd.refl [] w5).alloc _).trans hw6
    have taw6 := Tb.mono (taw5.old _) hw6 (by simp)
    have tbw6 := Tb.mono (tbw5.old _) hw6 (by simp)
    have tqw6 := Tb.mono (tqw5.old _) hw6 (by simp)
    have trw6 := Tb.mono (trw5.old _) hw6 (by simp)
    have tpw6 := Tb.mono (Tb.new w5 #[.int .u8 1, .bool gp, .slice ap Mp.length cp, .string ⟨#[]⟩, .int .i64 0, .slice none 0 0, .slice none 0 0] _ rfl) hw6 (by simp)
    have iaw6 : Hid _ := TI.mono (Hid.out iaw5) Vw6
    have ibw6 : Hid _ := TI.mono (Hid.out ibw5) Vw6
    have iqw6 : Hid _ := TI.mono (Hid.out iqw5) Vw6
    have irw6 : Hid _ := TI.mono (Hid.out irw5) Vw6
    have ipw6 : Hid _ := TI.mono (Hid.out ip) Vw6
    have Uw6 : Hid _ := Upd.trans (Hid.out Uw5) Vw6
    clear hw6 Vw6 taw5 tbw5 tqw5 trw5 iaw5 ibw5 iqw5 irw5 ip Uw5
    go_wp2_with (first | (refine load_G _ _ rfl _ _ rfl taw6 rfl rfl ?_) | (refine load_G _ _ rfl _ _ rfl tbw6 rfl rfl ?_) | (refine load_G _ _ rfl _ _ rfl tqw6 rfl rfl ?_) | (refine load_G _ _ rfl _ _ rfl trw6 rfl rfl ?_) | (refine load_G _ _ rfl _ _ rfl tpw6 rfl rfl ?_))
    refine (TI.rightU (Hid.out irw6) none none cr 0 0).mono ?_
    rintro e w7 ⟨rfl, hw7⟩
    have taw7 := Tb.mono taw6 hw7 (by simp)
    have tbw7 := Tb.mono tbw6 hw7 (by simp)
    have tqw7 := Tb.mono tqw6 hw7 (by simp)
    have trw7 := Tb.mono trw6 hw7 (by simp)
    have tpw7 := Tb.mono tpw6 hw7 (by simp)
    have iaw7 : Hid _ := TI.mono (Hid.out iaw6) hw7
    have ibw7 : Hid _ := TI.mono (Hid.out ibw6) hw7
    have iqw7 : Hid _ := TI.mono (Hid.out iqw6) hw7
    have irw7 : Hid _ := TI.mono (Hid.out irw6) hw7
    have ipw7 : Hid _ := TI.mono (Hid.out ipw6) hw7
    have Uw7 : Hid _ := Upd.trans (Hid.out Uw6) hw7
    clear hw7 taw6 tbw6 tqw6 trw6 tpw6 iaw6 ibw6 iqw6 irw6 ipw6 Uw6
    have cr2 := trw7.cell 2
    have cr1 := trw7.cell 1
    have ca1 := taw7.cell 1
    rcases rest_sign (Hid.out iaw7) (Hid.out irw7) with h0 | rfl
    · rw [h0] at cr2
      go_wp2
      go_meet
      exact ⟨rfl, Hid.out Uw7, taw7, tbw7, trw7, tpw7, Hid.out iaw7, Hid.out ibw7, Hid.out irw7, Hid.out ipw7⟩
    · by_cases h0 : Mr.length = 0
      · rw [h0] at cr2
        go_wp2
        go_meet
        exact ⟨rfl, Hid.out Uw7, taw7, tbw7, trw7, tpw7, Hid.out iaw7, Hid.out ibw7, Hid.out irw7, Hid.out ipw7⟩
      · have h1 : decide ((Mr.length : Int) > 0) = true := by simp; omega
        go_wp2
        go_meet
        exact ⟨rfl, Hid.out Uw7, taw7, tbw7, trw7, tpw7, Hid.out iaw7, Hid.out ibw7, Hid.out irw7, Hid.out ipw7⟩
  case rest =>
    obtain ⟨rfl, U8, ta8, tb8, tr8, tp8, ja8, jb8, jr8, jp8⟩ := hcut
    rename World => w8
    have V8 : Hid _ := U8
    have ia8 : Hid _ := ja8
    have ib8 : Hid _ := jb8
    have ir8 : Hid _ := jr8
    have ip8 : Hid _ := jp8
    clear U8 ja8 jb8 jr8 jp8 taw5 tbw5 tqw5 trw5 iaw5 ibw5 iqw5 irw5 ip Uw5
    go_wp2_with (first | (refine load_G _ _ rfl _ _ rfl ta8 rfl rfl ?_) | (refine load_G _ _ rfl _ _ rfl tb8 rfl rfl ?_) | (refine load_G _ _ rfl _ _ rfl tr8 rfl rfl ?_) | (refine load_G _ _ rfl _ _ rfl tp8 rfl rfl ?_))
    refine (Add_any ap none none ar none none cp 0 0 cr 0 0 gp gr Mp Mr _ _ _ (Hid.out ip8) (Hid.out ir8)).mono ?_
    rintro e w6 ⟨hR, hw6⟩
    rw [tdiv_back] at hR
    obtain ⟨_, gs, as_, cs, Ms, rfl, Ts⟩ := hR.resolve_right (fun h => h.1 (Hid.out ia8).small)
    have is : Hid _ := Ts
    clear Ts hR
    have taw6 := Tb.mono ta8 hw6 (by simp)
    have tbw6 := Tb.mono tb8 hw6 (by simp)
    have trw6 := Tb.mono tr8 hw6 (by simp)
    have tpw6 := Tb.mono tp8 hw6 (by simp)
    have iaw6 : Hid _ := TI.mono (Hid.out ia8) hw6
    have ibw6 : Hid _ := TI.mono (Hid.out ib8) hw6
    have irw6 : Hid _ := TI.mono (Hid.out ir8) hw6
    have ipw6 : Hid _ := TI.mono (Hid.out ip8) hw6
    have Uw6 : Hid _ := Upd.trans (Hid.out V8) hw6
    clear hw6 ta8 tb8 tr8 tp8 ia8 ib8 ir8 ip8 V8
    clear tpw6 ipw6
    go_upto_region 11 with (first | (refine load_G _ _ rfl _ _ rfl (taw6.old _) rfl rfl ?_) | (refine load_G _ _ rfl _ _ rfl (tbw6.old _) rfl rfl ?_) | (refine load_G _ _ rfl _ _ rfl (trw6.old _) rfl rfl ?_) | (refine load_G _ _ rfl _ _ rfl (Tb.new w6 _ _ rfl) rfl rfl ?_))
    have W11 := Upd.alloc (Upd.refl [] w6) (.cells #[.int .u8 1, .bool gs, .slice as_ Ms.length cs, .string ⟨#[]⟩, .int .i64 0, .slice none 0 0, .slice none 0 0] 26)
    have X11 : Hid _ := Upd.trans (Hid.out Uw6) W11
    have ta11 := taw6.old (.cells #[.int .u8 1, .bool gs, .slice as_ Ms.length cs, .string ⟨#[]⟩, .int .i64 0, .slice none 0 0, .slice none 0 0] 26)
    have tb11 := tbw6.old (.cells #[.int .u8 1, .bool gs, .slice as_ Ms.length cs, .string ⟨#[]⟩, .int .i64 0, .slice none 0 0, .slice none 0 0] 26)
    have tr11 := trw6.old (.cells #[.int .u8 1, .bool gs, .slice as_ Ms.length cs, .string ⟨#[]⟩, .int .i64 0, .slice none 0 0, .slice none 0 0] 26)
    have ts11 := Tb.new w6 #[.int .u8 1, .bool gs, .slice as_ Ms.length cs, .string ⟨#[]⟩, .int .i64 0, .slice none 0 0, .slice none 0 0] _ rfl
    have ia11 : Hid _ := TI.mono (Hid.out iaw6) W11
    have ib11 : Hid _ := TI.mono (Hid.out ibw6) W11
    have ir11 : Hid _ := TI.mono (Hid.out irw6) W11
    have is11 : Hid _ := TI.mono (Hid.out is) W11
    clear W11 taw6 tbw6 trw6 iaw6 ibw6 irw6 is Uw6
    obtain ⟨wz, hwz⟩ : ∃ x, x = w6.alloc (.cells #[.int .u8 1, .bool gs, .slice as_ Ms.length cs, .string ⟨#[]⟩, .int .i64 0, .slice none 0 0, .slice none 0 0] 26) := ⟨_, rfl⟩
    rw [← hwz] at X11 ta11 tb11 tr11 ts11 ia11 ib11 ir11 is11 ⊢
    clear hwz
    go_cut [15, 16] (fun s15 s16 wx => (∃ g h ax cx ay cy, s15 = .pointer (some ⟨g, 0, none⟩) ∧ s16 = .pointer (some ⟨h, 0, none⟩) ∧ Out wz g h wx gr neg1 ax ay Mr L1 cx cy (z0.tmod z1) z1))
    case first =>
      have r0 : wz.cell? ⟨w4.heap.size + 1, 0, none⟩ = some (.int .u8 1) := tr11.cell 0
      have b0 : wz.cell? ⟨w.heap.size + 1, 0, none⟩ = some (.int .u8 1) := tb11.cell 0
      have r1 : wz.cell? ⟨w4.heap.size + 1, 1, none⟩ = some (.bool gr) := tr11.cell 1
      have b1 : wz.cell? ⟨w.heap.size + 1, 1, none⟩ = some (.bool neg1) := tb11.cell 1
      have r2 : wz.cell? ⟨w4.heap.size + 1, 2, none⟩ = some (.slice ar Mr.length cr) := tr11.cell 2
      have b2 : wz.cell? ⟨w.heap.size + 1, 2, none⟩ = some (.slice a1 L1.length c1) := tb11.cell 2
      have r3 : wz.cell? ⟨w4.heap.size + 1, 3, none⟩ = some (.string ⟨#[]⟩) := tr11.cell 3
      have b3 : wz.cell? ⟨w.heap.size + 1, 3, none⟩ = some (.string ⟨#[]⟩) := tb11.cell 3
      have r4 : wz.cell? ⟨w4.heap.size + 1, 4, none⟩ = some (.int .i64 0) := tr11.cell 4
      have b4 : wz.cell? ⟨w.heap.size + 1, 4, none⟩ = some (.int .i64 0) := tb11.cell 4
      have r5 : wz.cell? ⟨w4.heap.size + 1, 5, none⟩ = some (.slice none 0 0) := tr11.cell 5
      have b5 : wz.cell? ⟨w.heap.size + 1, 5, none⟩ = some (.slice ai1 0 ci1) := tb11.cell 5
      have r6 : wz.cell? ⟨w4.heap.size + 1, 6, none⟩ = some (.slice none 0 0) := tr11.cell 6
      have b6 : wz.cell? ⟨w.heap.size + 1, 6, none⟩ = some (.slice at1 0 ct1) := tb11.cell 6
      have hlr := tr11.lt
      have hlb := tb11.lt
      have hta : Hid _ := tr11
      have htb : Hid _ := tb11
      clear tr11 tb11 ta11 ts11
      have hn0 : (w4.heap.size + 1 = wz.heap.size) = False := eq_false (by omega)
      have hn1 : (wz.heap.size = w4.heap.size + 1) = False := eq_false (by omega)
      have hn2 : (w4.heap.size + 1 = wz.heap.size + 1) = False := eq_false (by omega)
      have hn3 : (wz.heap.size + 1 = w4.heap.size + 1) = False := eq_false (by omega)
      have hn4 : (w.heap.size + 1 = wz.heap.size) = False := eq_false (by omega)
      have hn5 : (wz.heap.size = w.heap.size + 1) = False := eq_false (by omega)
      have hn6 : (w.heap.size + 1 = wz.heap.size + 1) = False := eq_false (by omega)
      have hn7 : (wz.heap.size + 1 = w.heap.size + 1) = False := eq_false (by omega)
      go_region_held3 (fun w' => w'.cell? ⟨w4.heap.size + 1, 0, none⟩ = some (.int .u8 1) ∧ w'.cell? ⟨w4.heap.size + 1, 1, none⟩ = some (.bool gr) ∧ w'.cell? ⟨w4.heap.size + 1, 2, none⟩ = some (.slice ar Mr.length cr) ∧ w'.cell? ⟨w4.heap.size + 1, 3, none⟩ = some (.string ⟨#[]⟩) ∧ w'.cell? ⟨w4.heap.size + 1, 4, none⟩ = some (.int .i64 0) ∧ w'.cell? ⟨w4.heap.size + 1, 5, none⟩ = some (.slice none 0 0) ∧ w'.cell? ⟨w4.heap.size + 1, 6, none⟩ = some (.slice none 0 0) ∧ w'.cell? ⟨w.heap.size + 1, 0, none⟩ = some (.int .u8 1) ∧ w'.cell? ⟨w.heap.size + 1, 1, none⟩ = some (.bool neg1) ∧ w'.cell? ⟨w.heap.size + 1, 2, none⟩ = some (.slice a1 L1.length c1) ∧ w'.cell? ⟨w.heap.size + 1, 3, none⟩ = some (.string ⟨#[]⟩) ∧ w'.cell? ⟨w.heap.size + 1, 4, none⟩ = some (.int .i64 0) ∧ w'.cell? ⟨w.heap.size + 1, 5, none⟩ = some (.slice ai1 0 ci1) ∧ w'.cell? ⟨w.heap.size + 1, 6, none⟩ = some (.slice at1 0 ct1))
        (go_keep)
        (first
          | (go_at_call_of 34 (Value.slice ar Mr.length cr); refine (CopyTerm_any ar none none cr 0 0 gr Mr (z0.tmod z1) _ ?_).mono ?_; (exact TI.mono (Hid.out ir11) (by repeat (first | exact Upd.refl _ _ | refine Upd.drew ?_ | refine Upd.alloc ?_ _))); rintro e v1 ⟨hv1, ax, cx, rfl, iv1⟩; have uv1 : Hid (Upd [] wz v1) := Upd.trans (by repeat (first | exact Upd.refl _ _ | refine Upd.drew ?_ | refine Upd.alloc ?_ _)) hv1; have pv1 : Tb v1 (w4.heap.size + 1) #[.int .u8 1, .bool gr, .slice ar Mr.length cr, .string ⟨#[]⟩, .int .i64 0, .slice none 0 0, .slice none 0 0] := Tb.mono (by first | exact (Hid.out hta) | exact Tb.old (Hid.out hta) _ | exact Tb.old (Tb.old (Hid.out hta) _) _) hv1 (by simp); have qv1 : Tb v1 (w.heap.size + 1) #[.int .u8 1, .bool neg1, .slice a1 L1.length c1, .string ⟨#[]⟩, .int .i64 0, .slice ai1 0 ci1, .slice at1 0 ct1] := Tb.mono (by first | exact (Hid.out htb) | exact Tb.old (Hid.out htb) _ | exact Tb.old (Tb.old (Hid.out htb) _) _) hv1 (by simp); have r0v1 : v1.cell? ⟨w4.heap.size + 1, 0, none⟩ = some (.int .u8 1) := pv1.cell 0; have b0v1 : v1.cell? ⟨w.heap.size + 1, 0, none⟩ = some (.int .u8 1) := qv1.cell 0; have r1v1 : v1.cell? ⟨w4.heap.size + 1, 1, none⟩ = some (.bool gr) := pv1.cell 1; have b1v1 : v1.cell? ⟨w.heap.size + 1, 1, none⟩ = some (.bool neg1) := qv1.cell 1; have r2v1 : v1.cell? ⟨w4.heap.size + 1, 2, none⟩ = some (.slice ar Mr.length cr) := pv1.cell 2; have b2v1 : v1.cell? ⟨w.heap.size + 1, 2, none⟩ = some (.slice a1 L1.length c1) := qv1.cell 2; have r3v1 : v1.cell? ⟨w4.heap.size + 1, 3, none⟩ = some (.string ⟨#[]⟩) := pv1.cell 3; have b3v1 : v1.cell? ⟨w.heap.size + 1, 3, none⟩ = some (.string ⟨#[]⟩) := qv1.cell 3; have r4v1 : v1.cell? ⟨w4.heap.size + 1, 4, none⟩ = some (.int .i64 0) := pv1.cell 4; have b4v1 : v1.cell? ⟨w.heap.size + 1, 4, none⟩ = some (.int .i64 0) := qv1.cell 4; have r5v1 : v1.cell? ⟨w4.heap.size + 1, 5, none⟩ = some (.slice none 0 0) := pv1.cell 5; have b5v1 : v1.cell? ⟨w.heap.size + 1, 5, none⟩ = some (.slice ai1 0 ci1) := qv1.cell 5; have r6v1 : v1.cell? ⟨w4.heap.size + 1, 6, none⟩ = some (.slice none 0 0) := pv1.cell 6; have b6v1 : v1.cell? ⟨w.heap.size + 1, 6, none⟩ = some (.slice at1 0 ct1) := qv1.cell 6; have sv1 : wz.heap.size ≤ v1.heap.size := (Hid.out uv1).size; have htav1 : Hid _ := pv1; have htbv1 : Hid _ := qv1; have hiv1 : Hid _ := iv1; clear pv1 qv1 iv1 ; (first | ( have n2v1 : Tb v1 (wz.heap.size + 1) #[.int .u8 0, .bool false, .slice none 0 0, .string ⟨#[]⟩, .int .i64 0, .slice none 0 0, .slice none 0 0] := Tb.mono (by exact Tb.new (wz.alloc _) _ _ (by simp)) hv1 (by simp); have n1v1 : Tb v1 wz.heap.size #[.int .u8 0, .bool false, .slice none 0 0, .string ⟨#[]⟩, .int .i64 0, .slice none 0 0, .slice none 0 0] := Tb.mono (by exact Tb.old (Tb.new wz _ _ rfl) _) hv1 (by simp); have n2v1c0 : v1.cell? ⟨wz.heap.size + 1, 0, none⟩ = some (.int .u8 0) := n2v1.cell 0; have n2v1c1 : v1.cell? ⟨wz.heap.size + 1, 1, none⟩ = some (.bool false) := n2v1.cell 1; have n2v1c2 : v1.cell? ⟨wz.heap.size + 1, 2, none⟩ = some (.slice none 0 0) := n2v1.cell 2; have n2v1c3 : v1.cell? ⟨wz.heap.size + 1, 3, none⟩ = some (.string ⟨#[]⟩) := n2v1.cell 3; have n2v1c4 : v1.cell? ⟨wz.heap.size + 1, 4, none⟩ = some (.int .i64 0) := n2v1.cell 4; have n2v1c5 : v1.cell? ⟨wz.heap.size + 1, 5, none⟩ = some (.slice none 0 0) := n2v1.cell 5; have n2v1c6 : v1.cell? ⟨wz.heap.size + 1, 6, none⟩ = some (.slice none 0 0) := n2v1.cell 6; have n2v1f : ∀ i, v1.frozen? ⟨wz.heap.size + 1, i, none⟩ = false := fun i => n2v1.free i; have n2v1l : wz.heap.size + 1 < v1.heap.size := n2v1.lt; have Hn2v1 : Hid _ := n2v1; clear n2v1; have n1v1c0 : v1.cell? ⟨wz.heap.size, 0, none⟩ = some (.int .u8 0) := n1v1.cell 0; have n1v1c1 : v1.cell? ⟨wz.heap.size, 1, none⟩ = some (.bool false) := n1v1.cell 1; have n1v1c2 : v1.cell? ⟨wz.heap.size, 2, none⟩ = some (.slice none 0 0) := n1v1.cell 2; have n1v1c3 : v1.cell? ⟨wz.heap.size, 3, none⟩ = some (.string ⟨#[]⟩) := n1v1.cell 3; have n1v1c4 : v1.cell? ⟨wz.heap.size, 4, none⟩ = some (.int .i64 0) := n1v1.cell 4; have n1v1c5 : v1.cell? ⟨wz.heap.size, 5, none⟩ = some (.slice none 0 0) := n1v1.cell 5; have n1v1c6 : v1.cell? ⟨wz.heap.size, 6, none⟩ = some (.slice none 0 0) := n1v1.cell 6; have n1v1f : ∀ i, v1.frozen? ⟨wz.heap.size, i, none⟩ = false := fun i => n1v1.free i; have n1v1l : wz.heap.size < v1.heap.size := n1v1.lt; have Hn1v1 : Hid _ := n1v1; clear n1v1) | ( have n1v1 : Tb v1 wz.heap.size #[.int .u8 0, .bool false, .slice none 0 0, .string ⟨#[]⟩, .int .i64 0, .slice none 0 0, .slice none 0 0] := Tb.mono (by exact Tb.new wz _ _ rfl) hv1 (by simp); have n1v1c0 : v1.cell? ⟨wz.heap.size, 0, none⟩ = some (.int .u8 0) := n1v1.cell 0; have n1v1c1 : v1.cell? ⟨wz.heap.size, 1, none⟩ = some (.bool false) := n1v1.cell 1; have n1v1c2 : v1.cell? ⟨wz.heap.size, 2, none⟩ = some (.slice none 0 0) := n1v1.cell 2; have n1v1c3 : v1.cell? ⟨wz.heap.size, 3, none⟩ = some (.string ⟨#[]⟩) := n1v1.cell 3; have n1v1c4 : v1.cell? ⟨wz.heap.size, 4, none⟩ = some (.int .i64 0) := n1v1.cell 4; have n1v1c5 : v1.cell? ⟨wz.heap.size, 5, none⟩ = some (.slice none 0 0) := n1v1.cell 5; have n1v1c6 : v1.cell? ⟨wz.heap.size, 6, none⟩ = some (.slice none 0 0) := n1v1.cell 6; have n1v1f : ∀ i, v1.frozen? ⟨wz.heap.size, i, none⟩ = false := fun i => n1v1.free i; have n1v1l : wz.heap.size < v1.heap.size := n1v1.lt; have Hn1v1 : Hid _ := n1v1; clear n1v1) | skip))
          | (go_at_call_of 34 (Value.slice a1 L1.length c1); refine (CopyTerm_any a1 ai1 at1 c1 ci1 ct1 neg1 L1 z1 _ ?_).mono ?_; (exact TI.mono (TI.mono (Hid.out ib11) (Hid.out uv1)) (by repeat (first | exact Upd.refl _ _ | refine Upd.drew ?_ | refine Upd.alloc ?_ _))); rintro e v2 ⟨hv2, ay, cy, rfl, iv2⟩; have uv2 : Hid (Upd [] v1 v2) := Upd.trans (by repeat (first | exact Upd.refl _ _ | refine Upd.drew ?_ | refine Upd.alloc ?_ _)) hv2; have pv2 : Tb v2 (w4.heap.size + 1) #[.int .u8 1, .bool gr, .slice ar Mr.length cr, .string ⟨#[]⟩, .int .i64 0, .slice none 0 0, .slice none 0 0] := Tb.mono (by first | exact (Hid.out htav1) | exact Tb.old (Hid.out htav1) _ | exact Tb.old (Tb.old (Hid.out htav1) _) _) hv2 (by simp); have qv2 : Tb v2 (w.heap.size + 1) #[.int .u8 1, .bool neg1, .slice a1 L1.length c1, .string ⟨#[]⟩, .int .i64 0, .slice ai1 0 ci1, .slice at1 0 ct1] := Tb.mono (by first | exact (Hid.out htbv1) | exact Tb.old (Hid.out htbv1) _ | exact Tb.old (Tb.old (Hid.out htbv1) _) _) hv2 (by simp); have r0v2 : v2.cell? ⟨w4.heap.size + 1, 0, none⟩ = some (.int .u8 1) := pv2.cell 0; have b0v2 : v2.cell? ⟨w.heap.size + 1, 0, none⟩ = some (.int .u8 1) := qv2.cell 0; have r1v2 : v2.cell? ⟨w4.heap.size + 1, 1, none⟩ = some (.bool gr) := pv2.cell 1; have b1v2 : v2.cell? ⟨w.heap.size + 1, 1, none⟩ = some (.bool neg1) := qv2.cell 1; have r2v2 : v2.cell? ⟨w4.heap.size + 1, 2, none⟩ = some (.slice ar Mr.length cr) := pv2.cell 2; have b2v2 : v2.cell? ⟨w.heap.size + 1, 2, none⟩ = some (.slice a1 L1.length c1) := qv2.cell 2; have r3v2 : v2.cell? ⟨w4.heap.size + 1, 3, none⟩ = some (.string ⟨#[]⟩) := pv2.cell 3; have b3v2 : v2.cell? ⟨w.heap.size + 1, 3, none⟩ = some (.string ⟨#[]⟩) := qv2.cell 3; have r4v2 : v2.cell? ⟨w4.heap.size + 1, 4, none⟩ = some (.int .i64 0) := pv2.cell 4; have b4v2 : v2.cell? ⟨w.heap.size + 1, 4, none⟩ = some (.int .i64 0) := qv2.cell 4; have r5v2 : v2.cell? ⟨w4.heap.size + 1, 5, none⟩ = some (.slice none 0 0) := pv2.cell 5; have b5v2 : v2.cell? ⟨w.heap.size + 1, 5, none⟩ = some (.slice ai1 0 ci1) := qv2.cell 5; have r6v2 : v2.cell? ⟨w4.heap.size + 1, 6, none⟩ = some (.slice none 0 0) := pv2.cell 6; have b6v2 : v2.cell? ⟨w.heap.size + 1, 6, none⟩ = some (.slice at1 0 ct1) := qv2.cell 6; have sv2 : v1.heap.size ≤ v2.heap.size := (Hid.out uv2).size; have htav2 : Hid _ := pv2; have htbv2 : Hid _ := qv2; have hiv2 : Hid _ := iv2; clear pv2 qv2 iv2 ; (first | (have n2v1x : Tb v2 (wz.heap.size + 1) #[.int .u8 0, .bool false, .slice none 0 0, .string ⟨#[]⟩, .int .i64 0, .slice none 0 0, .slice none 0 0] := Tb.mono (by first | exact (Hid.out Hn2v1) | exact Tb.old (Hid.out Hn2v1) _ | exact Tb.old (Tb.old (Hid.out Hn2v1) _) _) hv2 (by simp); have n2v1xc0 : v2.cell? ⟨wz.heap.size + 1, 0, none⟩ = some (.int .u8 0) := n2v1x.cell 0; have n2v1xc1 : v2.cell? ⟨wz.heap.size + 1, 1, none⟩ = some (.bool false) := n2v1x.cell 1; have n2v1xc2 : v2.cell? ⟨wz.heap.size + 1, 2, none⟩ = some (.slice none 0 0) := n2v1x.cell 2; have n2v1xc3 : v2.cell? ⟨wz.heap.size + 1, 3, none⟩ = some (.string ⟨#[]⟩) := n2v1x.cell 3; have n2v1xc4 : v2.cell? ⟨wz.heap.size + 1, 4, none⟩ = some (.int .i64 0) := n2v1x.cell 4; have n2v1xc5 : v2.cell? ⟨wz.heap.size + 1, 5, none⟩ = some (.slice none 0 0) := n2v1x.cell 5; have n2v1xc6 : v2.cell? ⟨wz.heap.size + 1, 6, none⟩ = some (.slice none 0 0) := n2v1x.cell 6; have n2v1xf : ∀ i, v2.frozen? ⟨wz.heap.size + 1, i, none⟩ = false := fun i => n2v1x.free i; have n2v1xl : wz.heap.size + 1 < v2.heap.size := n2v1x.lt; have Hn2v1x : Hid _ := n2v1x; clear n2v1x) | skip); (first | (have n1v1x : Tb v2 (wz.heap.size) #[.int .u8 0, .bool false, .slice none 0 0, .string ⟨#[]⟩, .int .i64 0, .slice none 0 0, .slice none 0 0] := Tb.mono (by first | exact (Hid.out Hn1v1) | exact Tb.old (Hid.out Hn1v1) _ | exact Tb.old (Tb.old (Hid.out Hn1v1) _) _) hv2 (by simp); have n1v1xc0 : v2.cell? ⟨wz.heap.size, 0, none⟩ = some (.int .u8 0) := n1v1x.cell 0; have n1v1xc1 : v2.cell? ⟨wz.heap.size, 1, none⟩ = some (.bool false) := n1v1x.cell 1; have n1v1xc2 : v2.cell? ⟨wz.heap.size, 2, none⟩ = some (.slice none 0 0) := n1v1x.cell 2; have n1v1xc3 : v2.cell? ⟨wz.heap.size, 3, none⟩ = some (.string ⟨#[]⟩) := n1v1x.cell 3; have n1v1xc4 : v2.cell? ⟨wz.heap.size, 4, none⟩ = some (.int .i64 0) := n1v1x.cell 4; have n1v1xc5 : v2.cell? ⟨wz.heap.size, 5, none⟩ = some (.slice none 0 0) := n1v1x.cell 5; have n1v1xc6 : v2.cell? ⟨wz.heap.size, 6, none⟩ = some (.slice none 0 0) := n1v1x.cell 6; have n1v1xf : ∀ i, v2.frozen? ⟨wz.heap.size, i, none⟩ = false := fun i => n1v1x.free i; have n1v1xl : wz.heap.size < v2.heap.size := n1v1x.lt; have Hn1v1x : Hid _ := n1v1x; clear n1v1x) | skip); (first | ( have n2v2 : Tb v2 (v1.heap.size + 1) #[.int .u8 0, .bool false, .slice none 0 0, .string ⟨#[]⟩, .int .i64 0, .slice none 0 0, .slice none 0 0] := Tb.mono (by exact Tb.new (v1.alloc _) _ _ (by simp)) hv2 (by simp); have n1v2 : Tb v2 v1.heap.size #[.int .u8 0, .bool false, .slice none 0 0, .string ⟨#[]⟩, .int .i64 0, .slice none 0 0, .slice none 0 0] := Tb.mono (by exact Tb.old (Tb.new v1 _ _ rfl) _) hv2 (by simp); have n2v2c0 : v2.cell? ⟨v1.heap.size + 1, 0, none⟩ = some (.int .u8 0) := n2v2.cell 0; have n2v2c1 : v2.cell? ⟨v1.heap.size + 1, 1, none⟩ = some (.bool false) := n2v2.cell 1; have n2v2c2 : v2.cell? ⟨v1.heap.size + 1, 2, none⟩ = some (.slice none 0 0) := n2v2.cell 2; have n2v2c3 : v2.cell? ⟨v1.heap.size + 1, 3, none⟩ = some (.string ⟨#[]⟩) := n2v2.cell 3; have n2v2c4 : v2.cell? ⟨v1.heap.size + 1, 4, none⟩ = some (.int .i64 0) := n2v2.cell 4; have n2v2c5 : v2.cell? ⟨v1.heap.size + 1, 5, none⟩ = some (.slice none 0 0) := n2v2.cell 5; have n2v2c6 : v2.cell? ⟨v1.heap.size + 1, 6, none⟩ = some (.slice none 0 0) := n2v2.cell 6; have n2v2f : ∀ i, v2.frozen? ⟨v1.heap.size + 1, i, none⟩ = false := fun i => n2v2.free i; have n2v2l : v1.heap.size + 1 < v2.heap.size := n2v2.lt; have Hn2v2 : Hid _ := n2v2; clear n2v2; have n1v2c0 : v2.cell? ⟨v1.heap.size, 0, none⟩ = some (.int .u8 0) := n1v2.cell 0; have n1v2c1 : v2.cell? ⟨v1.heap.size, 1, none⟩ = some (.bool false) := n1v2.cell 1; have n1v2c2 : v2.cell? ⟨v1.heap.size, 2, none⟩ = some (.slice none 0 0) := n1v2.cell 2; have n1v2c3 : v2.cell? ⟨v1.heap.size, 3, none⟩ = some (.string ⟨#[]⟩) := n1v2.cell 3; have n1v2c4 : v2.cell? ⟨v1.heap.size, 4, none⟩ = some (.int .i64 0) := n1v2.cell 4; have n1v2c5 : v2.cell? ⟨v1.heap.size, 5, none⟩ = some (.slice none 0 0) := n1v2.cell 5; have n1v2c6 : v2.cell? ⟨v1.heap.size, 6, none⟩ = some (.slice none 0 0) := n1v2.cell 6; have n1v2f : ∀ i, v2.frozen? ⟨v1.heap.size, i, none⟩ = false := fun i => n1v2.free i; have n1v2l : v1.heap.size < v2.heap.size := n1v2.lt; have Hn1v2 : Hid _ := n1v2; clear n1v2) | ( have n1v2 : Tb v2 v1.heap.size #[.int .u8 0, .bool false, .slice none 0 0, .string ⟨#[]⟩, .int .i64 0, .slice none 0 0, .slice none 0 0] := Tb.mono (by exact Tb.new v1 _ _ rfl) hv2 (by simp); have n1v2c0 : v2.cell? ⟨v1.heap.size, 0, none⟩ = some (.int .u8 0) := n1v2.cell 0; have n1v2c1 : v2.cell? ⟨v1.heap.size, 1, none⟩ = some (.bool false) := n1v2.cell 1; have n1v2c2 : v2.cell? ⟨v1.heap.size, 2, none⟩ = some (.slice none 0 0) := n1v2.cell 2; have n1v2c3 : v2.cell? ⟨v1.heap.size, 3, none⟩ = some (.string ⟨#[]⟩) := n1v2.cell 3; have n1v2c4 : v2.cell? ⟨v1.heap.size, 4, none⟩ = some (.int .i64 0) := n1v2.cell 4; have n1v2c5 : v2.cell? ⟨v1.heap.size, 5, none⟩ = some (.slice none 0 0) := n1v2.cell 5; have n1v2c6 : v2.cell? ⟨v1.heap.size, 6, none⟩ = some (.slice none 0 0) := n1v2.cell 6; have n1v2f : ∀ i, v2.frozen? ⟨v1.heap.size, i, none⟩ = false := fun i => n1v2.free i; have n1v2l : v1.heap.size < v2.heap.size := n1v2.lt; have Hn1v2 : Hid _ := n1v2; clear n1v2) | skip); (try have e01 : (w4.heap.size = w.heap.size) = False := eq_false (by omega)); (try have e03 : (w4.heap.size = w.heap.size + 1) = False := eq_false (by omega)); (try have e04 : (w4.heap.size = wz.heap.size) = False := eq_false (by omega)); (try have e05 : (w4.heap.size = wz.heap.size + 1) = False := eq_false (by omega)); (try have e06 : (w4.heap.size = v1.heap.size) = False := eq_false (by omega)); (try have e07 : (w4.heap.size = v1.heap.size + 1) = False := eq_false (by omega)); (try have e08 : (w4.heap.size = v2.heap.size) = False := eq_false (by omega)); (try have e09 : (w4.heap.size = v2.heap.size + 1) = False := eq_false (by omega)); (try have e10 : (w.heap.size = w4.heap.size) = False := eq_false (by omega)); (try have e12 : (w.heap.size = w4.heap.size + 1) = False := eq_false (by omega)); (try have e14 : (w.heap.size = wz.heap.size) = False := eq_false (by omega)); (try have e15 : (w.heap.size = wz.heap.size + 1) = False := eq_false (by omega)); (try have e16 : (w.heap.size = v1.heap.size) = False := eq_false (by omega)); (try have e17 : (w.heap.size = v1.heap.size + 1) = False := eq_false (by omega)); (try have e18 : (w.heap.size = v2.heap.size) = False := eq_false (by omega)); (try have e19 : (w.heap.size = v2.heap.size + 1) = False := eq_false (by omega)); (try have e21 : (w4.heap.size + 1 = w.heap.size) = False := eq_false (by omega)); (try have e23 : (w4.heap.size + 1 = w.heap.size + 1) = False := eq_false (by omega)); (try have e24 : (w4.heap.size + 1 = wz.heap.size) = False := eq_false (by omega)); (try have e25 : (w4.heap.size + 1 = wz.heap.size + 1) = False := eq_false (by omega)); (try have e26 : (w4.heap.size + 1 = v1.heap.size) = False := eq_false (by omega)); (try have e27 : (w4.heap.size + 1 = v1.heap.size + 1) = False := eq_false (by omega)); (try have e28 : (w4.heap.size + 1 = v2.heap.size) = False := eq_false (by omega)); (try have e29 : (w4.heap.size + 1 = v2.heap.size + 1) = False := eq_false (by omega)); (try have e30 : (w.heap.size + 1 = w4.heap.size) = False := eq_false (by omega)); (try have e32 : (w.heap.size + 1 = w4.heap.size + 1) = False := eq_false (by omega)); (try have e34 : (w.heap.size + 1 = wz.heap.size) = False := eq_false (by omega)); (try have e35 : (w.heap.size + 1 = wz.heap.size + 1) = False := eq_false (by omega)); (try have e36 : (w.heap.size + 1 = v1.heap.size) = False := eq_false (by omega)); (try have e37 : (w.heap.size + 1 = v1.heap.size + 1) = False := eq_false (by omega)); (try have e38 : (w.heap.size + 1 = v2.heap.size) = False := eq_false (by omega)); (try have e39 : (w.heap.size + 1 = v2.heap.size + 1) = False := eq_false (by omega)); (try have e40 : (wz.heap.size = w4.heap.size) = False := eq_false (by omega)); (try have e41 : (wz.heap.size = w.heap.size) = False := eq_false (by omega)); (try have e42 : (wz.heap.size = w4.heap.size + 1) = False := eq_false (by omega)); (try have e43 : (wz.heap.size = w.heap.size + 1) = False := eq_false (by omega)); (try have e46 : (wz.heap.size = v1.heap.size) = False := eq_false (by omega)); (try have e47 : (wz.heap.size = v1.heap.size + 1) = False := eq_false (by omega)); (try have e48 : (wz.heap.size = v2.heap.size) = False := eq_false (by omega)); (try have e49 : (wz.heap.size = v2.heap.size + 1) = False := eq_false (by omega)); (try have e50 : (wz.heap.size + 1 = w4.heap.size) = False := eq_false (by omega)); (try have e51 : (wz.heap.size + 1 = w.heap.size) = False := eq_false (by omega)); (try have e52 : (wz.heap.size + 1 = w4.heap.size + 1) = False := eq_false (by omega)); (try have e53 : (wz.heap.size + 1 = w.heap.size + 1) = False := eq_false (by omega)); (try have e56 : (wz.heap.size + 1 = v1.heap.size) = False := eq_false (by omega)); (try have e57 : (wz.heap.size + 1 = v1.heap.size + 1) = False := eq_false (by omega)); (try have e58 : (wz.heap.size + 1 = v2.heap.size) = False := eq_false (by omega)); (try have e59 : (wz.heap.size + 1 = v2.heap.size + 1) = False := eq_false (by omega)); (try have e60 : (v1.heap.size = w4.heap.size) = False := eq_false (by omega)); (try have e61 : (v1.heap.size = w.heap.size) = False := eq_false (by omega)); (try have e62 : (v1.heap.size = w4.heap.size + 1) = False := eq_false (by omega)); (try have e63 : (v1.heap.size = w.heap.size + 1) = False := eq_false (by omega)); (try have e64 : (v1.heap.size = wz.heap.size) = False := eq_false (by omega)); (try have e65 : (v1.heap.size = wz.heap.size + 1) = False := eq_false (by omega)); (try have e68 : (v1.heap.size = v2.heap.size) = False := eq_false (by omega)); (try have e69 : (v1.heap.size = v2.heap.size + 1) = False := eq_false (by omega)); (try have e70 : (v1.heap.size + 1 = w4.heap.size) = False := eq_false (by omega)); (try have e71 : (v1.heap.size + 1 = w.heap.size) = False := eq_false (by omega)); (try have e72 : (v1.heap.size + 1 = w4.heap.size + 1) = False := eq_false (by omega)); (try have e73 : (v1.heap.size + 1 = w.heap.size + 1) = False := eq_false (by omega)); (try have e74 : (v1.heap.size + 1 = wz.heap.size) = False := eq_false (by omega)); (try have e75 : (v1.heap.size + 1 = wz.heap.size + 1) = False := eq_false (by omega)); (try have e78 : (v1.heap.size + 1 = v2.heap.size) = False := eq_false (by omega)); (try have e79 : (v1.heap.size + 1 = v2.heap.size + 1) = False := eq_false (by omega)); (try have e80 : (v2.heap.size = w4.heap.size) = False := eq_false (by omega)); (try have e81 : (v2.heap.size = w.heap.size) = False := eq_false (by omega)); (try have e82 : (v2.heap.size = w4.heap.size + 1) = False := eq_false (by omega)); (try have e83 : (v2.heap.size = w.heap.size + 1) = False := eq_false (by omega)); (try have e84 : (v2.heap.size = wz.heap.size) = False := eq_false (by omega)); (try have e85 : (v2.heap.size = wz.heap.size + 1) = False := eq_false (by omega)); (try have e86 : (v2.heap.size = v1.heap.size) = False := eq_false (by omega)); (try have e87 : (v2.heap.size = v1.heap.size + 1) = False := eq_false (by omega)); (try have e90 : (v2.heap.size + 1 = w4.heap.size) = False := eq_false (by omega)); (try have e91 : (v2.heap.size + 1 = w.heap.size) = False := eq_false (by omega)); (try have e92 : (v2.heap.size + 1 = w4.heap.size + 1) = False := eq_false (by omega)); (try have e93 : (v2.heap.size + 1 = w.heap.size + 1) = False := eq_false (by omega)); (try have e94 : (v2.heap.size + 1 = wz.heap.size) = False := eq_false (by omega)); (try have e95 : (v2.heap.size + 1 = wz.heap.size + 1) = False := eq_false (by omega)); (try have e96 : (v2.heap.size + 1 = v1.heap.size) = False := eq_false (by omega)); (try have e97 : (v2.heap.size + 1 = v1.heap.size + 1) = False := eq_false (by omega))))
      all_goals
        go_wp2_with fail
        go_meet
        refine ⟨_, _, ax, cx, ay, cy, rfl, rfl, ?_⟩
        clear hta htb
        first
          | (refine Out.pick v2.heap.size (v2.heap.size + 1) ?_; exact Out.aa (v := v2) (TI.mono (Hid.out hiv1) (Hid.out uv2)) (Hid.out hiv2) (Upd.trans (Hid.out uv1) (Hid.out uv2)))
          | (refine Out.pick (v2.heap.size + 1) v2.heap.size ?_; exact Out.bb (v := v2) (TI.mono (Hid.out hiv1) (Hid.out uv2)) (Hid.out hiv2) (Upd.trans (Hid.out uv1) (Hid.out uv2)))
          | (refine Out.pick (wz.heap.size) v2.heap.size ?_; exact Out.sa (v := v2) (G := wz.heap.size) (Hid.out Hn1v1x) (by omega) (TI.mono (Hid.out hiv1) (Hid.out uv2)) (Hid.out hiv2) (Upd.trans (Hid.out uv1) (Hid.out uv2)))
          | (refine Out.pick v2.heap.size (wz.heap.size) ?_; exact Out.as' (v := v2) (G := wz.heap.size) (Hid.out Hn1v1x) (by omega) (TI.mono (Hid.out hiv1) (Hid.out uv2)) (Hid.out hiv2) (Upd.trans (Hid.out uv1) (Hid.out uv2)))
          | (refine Out.pick (v1.heap.size) v2.heap.size ?_; exact Out.sa (v := v2) (G := v1.heap.size) (Hid.out Hn1v2) (by omega) (TI.mono (Hid.out hiv1) (Hid.out uv2)) (Hid.out hiv2) (Upd.trans (Hid.out uv1) (Hid.out uv2)))
          | (refine Out.pick v2.heap.size (v1.heap.size) ?_; exact Out.as' (v := v2) (G := v1.heap.size) (Hid.out Hn1v2) (by omega) (TI.mono (Hid.out hiv1) (Hid.out uv2)) (Hid.out hiv2) (Upd.trans (Hid.out uv1) (Hid.out uv2)))
          | (refine Out.pick (v1.heap.size) (v1.heap.size + 1) ?_; exact Out.ss (v := v2) (G := v1.heap.size) (H := v1.heap.size + 1) (Hid.out Hn1v2) (Hid.out Hn2v2) (by omega) (by omega) (by omega) (TI.mono (Hid.out hiv1) (Hid.out uv2)) (Hid.out hiv2) (Upd.trans (Hid.out uv1) (Hid.out uv2)))
          | (refine Out.pick (v1.heap.size + 1) (v1.heap.size) ?_; exact Out.ss (v := v2) (G := v1.heap.size + 1) (H := v1.heap.size) (Hid.out Hn2v2) (Hid.out Hn1v2) (by omega) (by omega) (by omega) (TI.mono (Hid.out hiv1) (Hid.out uv2)) (Hid.out hiv2) (Upd.trans (Hid.out uv1) (Hid.out uv2)))
          | (refine Out.pick (wz.heap.size) (v1.heap.size) ?_; exact Out.ss (v := v2) (G := wz.heap.size) (H := v1.heap.size) (Hid.out Hn1v1x) (Hid.out Hn1v2) (by omega) (by omega) (by omega) (TI.mono (Hid.out hiv1) (Hid.out uv2)) (Hid.out hiv2) (Upd.trans (Hid.out uv1) (Hid.out uv2)))
          | (refine Out.pick (v1.heap.size) (wz.heap.size) ?_; exact Out.ss (v := v2) (G := v1.heap.size) (H := wz.heap.size) (Hid.out Hn1v2) (Hid.out Hn1v1x) (by omega) (by omega) (by omega) (TI.mono (Hid.out hiv1) (Hid.out uv2)) (Hid.out hiv2) (Upd.trans (Hid.out uv1) (Hid.out uv2)))
          | (refine Out.pick (wz.heap.size) (wz.heap.size + 1) ?_; exact Out.ss (v := v2) (G := wz.heap.size) (H := wz.heap.size + 1) (Hid.out Hn1v1x) (Hid.out Hn2v1x) (by omega) (by omega) (by omega) (TI.mono (Hid.out hiv1) (Hid.out uv2)) (Hid.out hiv2) (Upd.trans (Hid.out uv1) (Hid.out uv2)))
          | (refine Out.pick (wz.heap.size + 1) (wz.heap.size) ?_; exact Out.ss (v := v2) (G := wz.heap.size + 1) (H := wz.heap.size) (Hid.out Hn2v1x) (Hid.out Hn1v1x) (by omega) (by omega) (by omega) (TI.mono (Hid.out hiv1) (Hid.out uv2)) (Hid.out hiv2) (Upd.trans (Hid.out uv1) (Hid.out uv2)))
    case rest =>
      obtain ⟨g, h, ax, cx, ay, cy, rfl, rfl, hgh, hg, hh, tx, ty, ix, iy, hU⟩ := hcut
      rename World => w11
      have ta12 := ta11.mono hU (by simp)
      have la := ta11.lt
      have ts12 := ts11.mono hU (by simp)
      have ls := ts11.lt
      have ia12 := (Hid.out ia11).mono hU
      have is12 := (Hid.out is11).mono hU
      have U12 := (Hid.out X11).trans hU
      have u1 := upd_cell w11 g 1 (.bool false)
      have tx1 := tx.sgn false
      have ty1 := ty.mono u1 (by simp; omega)
      have ta13 := ta12.mono u1 (by simp; omega)
      have ia13 := ia12.keep tx u1
      have ts13 := ts12.mono u1 (by simp; omega)
      have is13 := is12.keep tx u1
      have ix1 := ix.keep tx u1
      have iy1 := iy.keep tx u1
      have x2 := upd_cell (w11.setCell ⟨g, 1, none⟩ (.bool false)) h 1 (.bool false)
      have tx2 := tx1.mono x2 (by simp; omega)
      have ty2 := ty1.sgn false
      have ta14 := ta13.mono x2 (by simp; omega)
      have ia14 : Hid _ := ia13.keep ty1 x2
      have ts14 := ts13.mono x2 (by simp; omega)
      have is14 : Hid _ := is13.keep ty1 x2
      have ix2 : Hid _ := TI.abs (ix1.keep ty1 x2)
      have iy2 : Hid _ := TI.abs (iy1.keep ty1 x2)
      have U14 : Hid (Upd [] w _) := (U12.then u1 (by have := (Hid.out X11).size; simp; omega)).then x2 (by have := (Hid.out X11).size; simp; omega)
      have cx1 := tx.cell 1
      have cy1 := ty.cell 1
      have cfx := tx.free 1
      have cfy := ty.free 1
      have hne1 : (h = g) = False := eq_false (Ne.symm hgh)
      have hne2 : (g = h) = False := eq_false hgh
      clear tx ty ix iy tx1 ty1 ix1 iy1 ta12 ta13 ia12 ia13 ta11 ia11 ts12 ts13 is12 is13 ts11 is11 U12 u1 x2 tb11 tr11 ib11 ir11 hU X11
      go_wp2_with (first | (refine load_G _ _ rfl _ _ rfl ta14 rfl rfl ?_) | (refine load_G _ _ rfl _ _ rfl ts14 rfl rfl ?_) | (refine load_G _ _ rfl _ _ rfl tx2 rfl rfl ?_) | (refine load_G _ _ rfl _ _ rfl ty2 rfl rfl ?_))
      refine (Compare_any as_ none none a0 ai0 at0 cs 0 0 c0 ci0 ct0 gs neg0 Ms L0 _ _ _ (Hid.out is14) (Hid.out ia14)).mono ?_
      rintro e w15 ⟨rfl, h15⟩
      rw [show cmpZ z0 z0 = 0 by unfold cmpZ; simp]
      have tx3 := tx2.mono h15 (by simp)
      have ty3 := ty2.mono h15 (by simp)
      have ix3 : Hid _ := (Hid.out ix2).mono h15
      have iy3 : Hid _ := (Hid.out iy2).mono h15
      have U15 : Hid _ := (Hid.out U14).trans h15
      clear tx2 ty2 ix2 iy2 U14 h15 ta14 ts14 ia14 is14
      go_wp2_with (first | (refine load_G _ _ rfl _ _ rfl tx3 rfl rfl ?_) | (refine load_G _ _ rfl _ _ rfl ty3 rfl rfl ?_))
      refine (Compare_any ax none none ay none none cx 0 0 cy 0 0 false false Mr L1 _ _ _ (Hid.out ix3) (Hid.out iy3)).mono ?_
      rintro e w16 ⟨rfl, h16⟩
      rw [tmod_less z0 z1 (Hid.out HZ)]
      go_wp2
      go_ret
      exact ⟨rfl, (Hid.out U15).trans h16⟩

end Go.Proofs.YtpeganecbjefoaaDoor
