/- MailNumbers, walked. -/
import Derived.Test.YtmdkhkeljpdbiaaMrG
namespace Go.Proofs.Ytmdkhkeljpdbiaa
open Go.RowKit

set_option maxHeartbeats 8000000 in
set_option maxRecDepth 100000 in
theorem Numbers_walk (w : World) : Calls Try.prog 4 #[] w fun e w' => e = .returned (.bool true) ∧ Upd [] w w' := by
  go_enter Try.func4, Try.ntmps4
  go_wp2_with fail
  refine Calls.mono (new_V _) ?_
  rintro e w1 ⟨rfl, hB, hu⟩
  obtain ⟨b, hb⟩ : ∃ b, b = w.heap.size := ⟨_, rfl⟩
  rw [← hb] at hB ⊢
  have HB : Hid (BoxV w1 b (.slice none 0 0) [] 0 ∧ Upd [] w w1 ∧ b = w.heap.size) := ⟨hB, hu, hb⟩
  clear hB hu hb
  go_wp2_with fail
  generalize hw2 : World.alloc _ _ = w2
  have hrb : RBx w2 w1.heap.size (.slice none 0 0) 0 := by rw [← hw2]; exact heap_alloc_new w1 _
  have hu2 : Upd [] w1 w2 := by rw [← hw2]; exact (Upd.refl [] w1).alloc _
  obtain ⟨r, hr⟩ : ∃ r, r = w1.heap.size := ⟨_, rfl⟩
  rw [← hr] at hrb ⊢
  have hbl := HB.out.1.lt
  have hs1 := HB.out.2.1.size
  have H2 : Hid (N1 w w2 b r (.int .i64 0)) := ⟨0, .slice none 0 0, .slice none 0 0, rfl, by omega, ⟨HB.out.1.up hu2, ⟨hrb, Or.inl ⟨rfl, rfl⟩, Hs.zero _ _ _ _, by simp [Value.ownBlock]⟩, by omega, by simp [Value.ownBlock], by simp [Value.ownBlock], fun y hy => by simp [Value.ownBlock] at hy, ⟨HB.out.2.1.trans hu2, by rw [HB.out.2.2]; exact Nat.le_refl _, fun y hy => by simp [Value.ownBlock] at hy⟩, by omega, fun y hy => by simp [Value.ownBlock] at hy⟩⟩
  clear hrb hu2 hr hbl hs1 hw2 HB
  go_loopw [3] (fun s3 wr => N1 w wr b r s3) (fun s3 _ => 1024 - (intOf s3).toNat)
  case atStart => exact H2.out
  case round =>
    obtain ⟨i, v, u, rfl, hi, hnum⟩ := hrel
    have HN : Hid (Num w wr b v (lq i) 0 r u (lq i) 0) := hnum
    clear hnum H2
    by_cases hlt : i < 1024
    · have i1 : (i : Int) < 1024 := by omega
      go_wp2_with fail
      refine Calls.mono (put_on _ b v _ 0 5 (i : Int) false ⟨#[]⟩ (by rw [lq_len]; exact hlt) HN.out.box) ?_
      rintro e w3 ⟨rfl, v3, hB, hU⟩
      rw [← lq_succ] at hB
      have HN3 : Hid (Num w w3 b v3 (lq (i + 1)) 0 r u (lq i) 0) := HN.out.stepB hB hU
      clear hB hU HN
      go_wp2_with fail
      refine Calls.mono (rput_on _ r u _ 0 5 (i : Int) false ⟨#[]⟩ (by rw [lq_len]; exact hlt) HN3.out.rbox) ?_
      rintro e w4 ⟨rfl, u4, hB, hU⟩
      rw [← lq_succ] at hB
      have HN4 : Hid (Num w w4 b v3 (lq (i + 1)) 0 r u4 (lq (i + 1)) 0) := HN3.out.stepR hB hU
      clear hB hU HN3
      go_wp2_with fail
      go_roundw
      case rel => exact ⟨i + 1, v3, u4, by go_num, hlt, HN4.out⟩
      case measure => simp [intOf]; omega
    · obtain rfl : i = 1024 := by omega
      go_wp2_with fail
      refine Calls.mono (letter_any _ _) ?_
      rintro e w3 ⟨rfl, hu⟩
      have HN3 : Hid (Num w w3 b v (lq 1024) 0 r u (lq 1024) 0) := HN.out.up hu
      clear hu HN
      go_wp2_with fail
      obtain ⟨pv, cv, hv⟩ := HN3.out.box.form
      rw [lq_len] at hv
      subst hv
      refine Calls.mono (put_full _ b pv 1024 cv 0 _ rfl HN3.out.box.bx) ?_
      rintro e w4 ⟨rfl, hu⟩
      have HN4 : Hid (Num w w4 b (.slice pv 1024 cv) (lq 1024) 0 r u (lq 1024) 0) := HN3.out.up hu
      clear hu HN3
      go_wp2_with fail
      refine Calls.mono (len_V _ b _ _ 0 1024 (lq_len _) HN4.out.box) ?_
      rintro e w5 ⟨rfl, hw5⟩
      rw [hw5]
      clear hw5 w5
      go_wp2_with fail
      generalize hw5 : World.alloc _ _ = w5
      have hgs : w5.heap[w4.heap.size]? = some (.cells skips 3 (0, 0)) := by rw [← hw5]; exact heap_alloc_new w4 _
      have hu5 : Upd [] w4 w5 := by rw [← hw5]; exact (Upd.refl [] w4).alloc _
      obtain ⟨gs, hg⟩ : ∃ gs, gs = w4.heap.size := ⟨_, rfl⟩
      rw [← hg] at hgs ⊢
      have H5 : Hid (N2 w w5 b r gs (.int .i64 0)) := ⟨0, _, u, lq 1024, 0, rfl, by omega, lq_flat _, HN4.out.up hu5, Oth.new HN4.out (by omega) hgs, Or.inl ⟨by omega, by rw [lq_len], rfl⟩⟩
      clear hgs hu5 hg hw5 HN4
      go_loopw [5] (fun s5 wr => N2 w wr b r gs s5) (fun s5 _ => 6 - (intOf s5).toNat)
      case atStart => exact H5.out
      case round =>
        obtain ⟨j, v, u, L, k, rfl, hj, hf, hnum, hoth, hcase⟩ := hrel
        have HN : Hid (Num w wr b v L k r u L k ∧ Oth wr b v r u gs skips 3 ∧ Flat L) := ⟨hnum, hoth, hf⟩
        clear hnum hoth hf H5
        by_cases hlt : j < 6
        · have i1 : (j : Int) < 6 := by omega
          have hcs : L.length + j = 1024 ∧ k = 0 := by omega
          obtain ⟨hlj, rfl⟩ := hcs
          obtain ⟨s, hsk, hsn, hs4, hs5⟩ := skip_at j L.length hlt hlj
          have HJ : Hid (skips[j]? = some (.int .i64 (s : Nat)) ∧ s ≤ L.length ∧ (j < 5 → s < L.length) ∧ (j = 5 → s = L.length) ∧ L.length + j = 1024) := ⟨hsk, hsn, hs4, hs5, hlj⟩
          have hs1024 : s ≤ 1024 := by omega
          clear hcase hsk hsn hs4 hs5 hlj
          go_wp2_with fail
          go_loopw [6] (fun s6 wr => N3 w wr b v r u L gs s s6) (fun s6 _ => s - (intOf s6).toNat)
          case atStart => exact ⟨0, rfl, Nat.zero_le _, HN.out.1, HN.out.2.1⟩
          case round =>
            obtain ⟨m, rfl, hm, hnum, hoth⟩ := hrel
            have HM : Hid (Num w wr b v L m r u L m ∧ Oth wr b v r u gs skips 3) := ⟨hnum, hoth⟩
            have cg : wr.cell? ⟨gs, j, none⟩ = some (.int .i64 (s : Nat)) := by rw [cell_of_row _ _ _ _ _ _ hoth.at']; exact HJ.out.1
            clear hnum hoth
            by_cases hms : m < s
            · have i2 : (m : Int) < (s : Int) := by omega
              go_wp2_with fail
              refine Calls.mono (skip_V _ b v L m (by have := HJ.out; omega) (by have := HJ.out; omega) HM.out.1.box) ?_
              rintro e w6 ⟨rfl, hB, hU⟩
              have H6 : Hid (Num w w6 b v L (m + 1) r u L m ∧ Oth w6 b v r u gs skips 3) := ⟨HM.out.1.stepB hB hU, HM.out.2.stepB hU⟩
              clear hB hU
              go_wp2_with fail
              refine Calls.mono (rskip_V _ r u L m (by have := HJ.out; omega) (by have := HJ.out; omega) H6.out.1.rbox) ?_
              rintro e w7 ⟨rfl, hB, hU⟩
              have H7 : Hid (Num w w7 b v L (m + 1) r u L (m + 1) ∧ Oth w7 b v r u gs skips 3) := ⟨H6.out.1.stepR hB hU, H6.out.2.stepR hU⟩
              clear hB hU H6
              go_wp2_with fail
              go_roundw
              case rel => exact ⟨m + 1, by go_num, hms, H7.out.1, H7.out.2⟩
              case measure => simp [intOf]; omega
            · obtain rfl : m = s := by omega
              by_cases h5 : j < 5
              · have hml : m < L.length := HJ.out.2.2.1 h5
                obtain ⟨kk, bb, ss, nn, hc⟩ := HN.out.2.2.at hml
                have HC : Hid (L.getD m [] = (fl kk bb ss nn).toList) := hc
                clear hc
                have q0 : (nn == nn) = true := by simp
                go_wp2_with fail
                refine Calls.mono (take_on _ b v L m kk nn bb ss hml (by have := HJ.out; omega) HN.out.2.2.sev HM.out.1.box HC.out) ?_
                rintro e w6 ⟨rfl, v6, hB, hU⟩
                have H6 : Hid (Num w w6 b v6 (L.eraseIdx m) 0 r u L m ∧ Oth w6 b v6 r u gs skips 3) := ⟨HM.out.1.stepB hB hU, HM.out.2.stepB hU⟩
                have HX : Hid (Tb (w6.alloc (.cells #[.int .u8 0, .bool false, .slice none 0 0, .string ⟨#[]⟩, .int .i64 0, .slice none 0 0, .slice none 0 0] 26)) w6.heap.size #[.int .u8 0, .bool false, .slice none 0 0, .string ⟨#[]⟩, .int .i64 0, .slice none 0 0, .slice none 0 0] ∧ Upd [] w6 (w6.alloc (.cells #[.int .u8 0, .bool false, .slice none 0 0, .string ⟨#[]⟩, .int .i64 0, .slice none 0 0, .slice none 0 0] 26))) := ⟨Tb.new _ _ _ rfl, (Upd.refl [] _).alloc _⟩
                clear hB hU cg
                go_wp2_with (first | (refine store_T _ rfl _ _ rfl _ _ _ rfl rfl HX.out.1 rfl rfl (fl_one kk bb ss nn) ?_; intro w7 hT hU0) | fail)
                have hU7 : Upd [] w6 w7 := HX.out.2.then hU0 (by simp)
                obtain ⟨x, hx⟩ : ∃ x, x = w6.heap.size := ⟨_, rfl⟩
                rw [← hx] at hT ⊢
                have H7 : Hid (Num w w7 b v6 (L.eraseIdx m) 0 r u L m ∧ Oth w7 b v6 r u gs skips 3 ∧ Oth w7 b v6 r u x (fl kk bb ss nn) 26) := ⟨H6.out.1.up hU7, H6.out.2.up hU7, Oth.new H6.out.1 (by omega) hT⟩
                clear hU7 hT hU0 HX hx H6
                refine Calls.mono (rtake_V _ r u L m kk nn bb ss hml (by have := HJ.out; omega) HN.out.2.2.sev H7.out.1.rbox HC.out) ?_
                rintro e w8 ⟨rfl, u8, hB, hU⟩
                have H8 : Hid (Num w w8 b v6 (L.eraseIdx m) 0 r u8 (L.eraseIdx m) 0 ∧ Oth w8 b v6 r u8 gs skips 3 ∧ Oth w8 b v6 r u8 x (fl kk bb ss nn) 26) := ⟨H7.out.1.stepR hB hU, H7.out.2.1.stepR hU, H7.out.2.2.stepR hU⟩
                have HX : Hid (Tb (w8.alloc (.cells #[.int .u8 0, .bool false, .slice none 0 0, .string ⟨#[]⟩, .int .i64 0, .slice none 0 0, .slice none 0 0] 26)) w8.heap.size #[.int .u8 0, .bool false, .slice none 0 0, .string ⟨#[]⟩, .int .i64 0, .slice none 0 0, .slice none 0 0] ∧ Upd [] w8 (w8.alloc (.cells #[.int .u8 0, .bool false, .slice none 0 0, .string ⟨#[]⟩, .int .i64 0, .slice none 0 0, .slice none 0 0] 26))) := ⟨Tb.new _ _ _ rfl, (Upd.refl [] _).alloc _⟩
                clear hB hU H7
                go_wp2_with (first
                  | (refine store_T _ rfl _ _ rfl _ _ _ rfl rfl HX.out.1 rfl rfl (fl_one kk bb ss nn) ?_; intro w9 hT hU0
                     have hU9 : Upd [] w8 w9 := HX.out.2.then hU0 (by simp)
                     have y1 : w9.cell? ⟨x, 4, none⟩ = some (.int .i64 nn) := Tb.cell (H8.out.2.2.up hU9).at' 4
                     have y2 : w9.cell? ⟨w8.heap.size, 4, none⟩ = some (.int .i64 nn) := hT.cell 4
                     have H9 : Hid (Num w w9 b v6 (L.eraseIdx m) 0 r u8 (L.eraseIdx m) 0 ∧ Oth w9 b v6 r u8 gs skips 3) := ⟨H8.out.1.up hU9, H8.out.2.1.up hU9⟩
                     clear hT hU0 hU9)
                  | fail)
                have hle : (L.eraseIdx m).length + (j + 1) = 1024 := by rw [List.length_eraseIdx, if_pos hml]; have := HJ.out; omega
                refine Calls.mono (like_V _ b r 0 v6 u8 _ (by omega) (HN.out.2.2.erase m) (Nat.zero_le _) H9.out.1.both) ?_
                rintro e w10 ⟨rfl, hu⟩
                have H10 : Hid (N2 w w10 b r gs (.int .i64 ((j + 1 : Nat) : Int))) := ⟨j + 1, v6, u8, L.eraseIdx m, 0, rfl, by omega, HN.out.2.2.erase m, H9.out.1.up hu, H9.out.2.up hu, Or.inl ⟨by omega, hle, rfl⟩⟩
                clear hu hle
                go_wp2_with fail
                go_roundw
                case rel => have h10 := H10.out; rw [show ((j + 1 : Nat) : Int) = (j : Int) + 1 by omega] at h10; exact h10
                case measure => simp [intOf]; omega
              · have hml : m = L.length := HJ.out.2.2.2.1 (by omega)
                go_wp2_with fail
                refine Calls.mono (take_Ve _ b v L m hml HM.out.1.box) ?_
                rintro e w6 ⟨rfl, hu⟩
                have H6 : Hid (Num w w6 b v L m r u L m ∧ Oth w6 b v r u gs skips 3) := ⟨HM.out.1.up hu, HM.out.2.up hu⟩
                have HX : Hid (Tb (w6.alloc (.cells #[.int .u8 0, .bool false, .slice none 0 0, .string ⟨#[]⟩, .int .i64 0, .slice none 0 0, .slice none 0 0] 26)) w6.heap.size #[.int .u8 0, .bool false, .slice none 0 0, .string ⟨#[]⟩, .int .i64 0, .slice none 0 0, .slice none 0 0] ∧ Upd [] w6 (w6.alloc (.cells #[.int .u8 0, .bool false, .slice none 0 0, .string ⟨#[]⟩, .int .i64 0, .slice none 0 0, .slice none 0 0] 26))) := ⟨Tb.new _ _ _ rfl, (Upd.refl [] _).alloc _⟩
                clear hu cg
                go_wp2_with (first | (refine store_T _ rfl _ _ rfl _ _ _ rfl rfl HX.out.1 rfl rfl (fl_one 0 false ⟨#[]⟩ 0) ?_; intro w7 hT hU0) | fail)
                have hU7 : Upd [] w6 w7 := HX.out.2.then hU0 (by simp)
                obtain ⟨x, hx⟩ : ∃ x, x = w6.heap.size := ⟨_, rfl⟩
                rw [← hx] at hT ⊢
                have H7 : Hid (Num w w7 b v L m r u L m ∧ Oth w7 b v r u gs skips 3 ∧ Tb w7 x #[.int .u8 0, .bool false, .slice none 0 0, .string ⟨#[]⟩, .int .i64 0, .slice none 0 0, .slice none 0 0]) := ⟨H6.out.1.up hU7, H6.out.2.up hU7, hT⟩
                clear hU7 hT hU0 HX hx H6
                refine Calls.mono (rtake_Ve _ r u L m hml H7.out.1.rbox) ?_
                rintro e w8 ⟨rfl, hu⟩
                have H8 : Hid (Num w w8 b v L m r u L m ∧ Oth w8 b v r u gs skips 3 ∧ Tb w8 x #[.int .u8 0, .bool false, .slice none 0 0, .string ⟨#[]⟩, .int .i64 0, .slice none 0 0, .slice none 0 0]) := ⟨H7.out.1.up hu, H7.out.2.1.up hu, H7.out.2.2.mono hu (by simp)⟩
                have HX : Hid (Tb (w8.alloc (.cells #[.int .u8 0, .bool false, .slice none 0 0, .string ⟨#[]⟩, .int .i64 0, .slice none 0 0, .slice none 0 0] 26)) w8.heap.size #[.int .u8 0, .bool false, .slice none 0 0, .string ⟨#[]⟩, .int .i64 0, .slice none 0 0, .slice none 0 0] ∧ Upd [] w8 (w8.alloc (.cells #[.int .u8 0, .bool false, .slice none 0 0, .string ⟨#[]⟩, .int .i64 0, .slice none 0 0, .slice none 0 0] 26))) := ⟨Tb.new _ _ _ rfl, (Upd.refl [] _).alloc _⟩
                clear hu H7
                go_wp2_with (first
                  | (refine store_T _ rfl _ _ rfl _ _ _ rfl rfl HX.out.1 rfl rfl (fl_one 0 false ⟨#[]⟩ 0) ?_; intro w9 hT hU0
                     have hU9 : Upd [] w8 w9 := HX.out.2.then hU0 (by simp)
                     have y1 : w9.cell? ⟨x, 4, none⟩ = some (.int .i64 0) := (H8.out.2.2.mono hU9 (by simp)).cell 4
                     have y2 : w9.cell? ⟨w8.heap.size, 4, none⟩ = some (.int .i64 0) := hT.cell 4
                     have H9 : Hid (Num w w9 b v L m r u L m ∧ Oth w9 b v r u gs skips 3) := ⟨H8.out.1.up hU9, H8.out.2.1.up hU9⟩
                     clear hT hU0 hU9)
                  | fail)
                refine Calls.mono (like_V _ b r m v u _ (by have := HJ.out; omega) HN.out.2.2 (by omega) H9.out.1.both) ?_
                rintro e w10 ⟨rfl, hu⟩
                have H10 : Hid (N2 w w10 b r gs (.int .i64 ((j + 1 : Nat) : Int))) := ⟨j + 1, v, u, L, m, rfl, by omega, HN.out.2.2, H9.out.1.up hu, H9.out.2.up hu, Or.inr (by have := HJ.out; omega)⟩
                clear hu
                go_wp2_with fail
                go_roundw
                case rel => have h10 := H10.out; rw [show ((j + 1 : Nat) : Int) = (j : Int) + 1 by omega] at h10; exact h10
                case measure => simp [intOf]; omega
        · obtain rfl : j = 6 := by omega
          have hcs : L.length = 1019 ∧ k = 1019 := by omega
          obtain ⟨hl9, rfl⟩ := hcs
          have HL : Hid (L.length = 1019) := hl9
          clear hcase hl9
          go_wp2_with fail
          refine Calls.mono (letter_any _ _) ?_
          rintro e w6 ⟨rfl, hu⟩
          have H6 : Hid (Num w w6 b v L 1019 r u L 1019) := HN.out.1.up hu
          clear hu
          go_wp2_with fail
          refine Calls.mono (put_on _ b v L 1019 2 0 false ⟨#[98]⟩ (by rw [HL.out]; omega) H6.out.box) ?_
          rintro e w7 ⟨rfl, v7, hB, hU⟩
          have H7 : Hid (Num w w7 b v7 (L ++ [(fl 2 false ⟨#[98]⟩ 0).toList]) 1019 r u L 1019) := H6.out.stepB hB hU
          clear hB hU H6
          go_wp2_with fail
          refine Calls.mono (letter_any _ _) ?_
          rintro e w8 ⟨rfl, hu⟩
          have H8 : Hid (Num w w8 b v7 (L ++ [(fl 2 false ⟨#[98]⟩ 0).toList]) 1019 r u L 1019) := H7.out.up hu
          clear hu H7
          go_wp2_with fail
          refine Calls.mono (rput_on _ r u L 1019 2 0 false ⟨#[98]⟩ (by rw [HL.out]; omega) H8.out.rbox) ?_
          rintro e w9 ⟨rfl, u9, hB, hU⟩
          have H9 : Hid (Num w w9 b v7 (L ++ [(fl 2 false ⟨#[98]⟩ 0).toList]) 1019 r u9 (L ++ [(fl 2 false ⟨#[98]⟩ 0).toList]) 1019 ∧ Flat (L ++ [(fl 2 false ⟨#[98]⟩ 0).toList]) ∧ (L ++ [(fl 2 false ⟨#[98]⟩ 0).toList]).length = 1020) := ⟨H8.out.stepR hB hU, HN.out.2.2.snoc _ _ _ _, by rw [List.length_append, HL.out]; rfl⟩
          clear hB hU H8
          go_wp2_with fail
          refine Calls.mono (like_V _ b r 1019 v7 u9 _ (by rw [H9.out.2.2]; omega) H9.out.2.1 (by rw [H9.out.2.2]; omega) H9.out.1.both) ?_
          rintro e w10 ⟨rfl, hu⟩
          have H10 : Hid (N4 w w10 b r) := ⟨v7, u9, _, 1019, H9.out.2.1, H9.out.2.2, by omega, H9.out.1.up hu⟩
          clear hu HN HL H9
          go_wp2_with fail
          go_loopw [103] (fun _ wr => N4 w wr b r) (fun _ wr => 1020 - lookAt wr b)
          case atStart => exact H10.out
          case round =>
            obtain ⟨v, u, L, k, hf, hl, hk, hnum⟩ := hrel
            have HM : Hid (Num w wr b v L k r u L k ∧ Flat L ∧ L.length = 1020) := ⟨hnum, hf, hl⟩
            clear hnum hf hl H10
            by_cases hlt2 : k < 1020
            · go_wp2_with fail
              refine Calls.mono (skip_V _ b v L k (by rw [HM.out.2.2]; exact hlt2) (by rw [HM.out.2.2]; omega) HM.out.1.box) ?_
              rintro e w11 ⟨rfl, hB, hU⟩
              have H11 : Hid (Num w w11 b v L (k + 1) r u L k) := HM.out.1.stepB hB hU
              clear hB hU
              go_wp2_with fail
              refine Calls.mono (rskip_V _ r u L k (by rw [HM.out.2.2]; exact hlt2) (by rw [HM.out.2.2]; omega) H11.out.rbox) ?_
              rintro e w12 ⟨rfl, hB, hU⟩
              have H12 : Hid (Num w w12 b v L (k + 1) r u L (k + 1)) := H11.out.stepR hB hU
              clear hB hU H11
              go_wp2_with fail
              have hk1 : lookAt w12 b = k + 1 := H12.out.box.lookAt
              have hk0 : lookAt wr b = k := HM.out.1.box.lookAt
              go_roundw
              case rel => exact ⟨v, u, L, k + 1, HM.out.2.1, HM.out.2.2, by omega, H12.out⟩
              case measure => rw [hk1, hk0]; omega
            · obtain rfl : k = 1020 := by omega
              go_wp2_with fail
              refine Calls.mono (skip_Ve _ b v L 1020 (by rw [HM.out.2.2]) HM.out.1.box) ?_
              rintro e w11 ⟨rfl, hB, hU⟩
              have H11 : Hid (Num w w11 b v L 1020 r u L 1020) := HM.out.1.stepB hB hU
              clear hB hU
              go_wp2_with fail
              refine Calls.mono (take_Ve _ b v L 1020 (by rw [HM.out.2.2]) H11.out.box) ?_
              rintro e w12 ⟨rfl, hu⟩
              have H12 : Hid (Num w w12 b v L 1020 r u L 1020) := H11.out.up hu
              have HX : Hid (Tb (w12.alloc (.cells #[.int .u8 0, .bool false, .slice none 0 0, .string ⟨#[]⟩, .int .i64 0, .slice none 0 0, .slice none 0 0] 26)) w12.heap.size #[.int .u8 0, .bool false, .slice none 0 0, .string ⟨#[]⟩, .int .i64 0, .slice none 0 0, .slice none 0 0] ∧ Upd [] w12 (w12.alloc (.cells #[.int .u8 0, .bool false, .slice none 0 0, .string ⟨#[]⟩, .int .i64 0, .slice none 0 0, .slice none 0 0] 26))) := ⟨Tb.new _ _ _ rfl, (Upd.refl [] _).alloc _⟩
              clear hu H11
              go_wp2_with (first | (refine store_T _ rfl _ _ rfl _ _ _ rfl rfl HX.out.1 rfl rfl (fl_one 0 false ⟨#[]⟩ 0) ?_; intro w13 hT hU0) | fail)
              have H13 : Hid (Num w w13 b v L 1020 r u L 1020) := H12.out.up (HX.out.2.then hU0 (by simp))
              clear hT hU0 HX H12
              refine Calls.mono (rskip_Ve _ r u L 1020 (by rw [HM.out.2.2]) H13.out.rbox) ?_
              rintro e w14 ⟨rfl, hu⟩
              have H14 : Hid (Num w w14 b v L 1020 r u L 1020) := H13.out.up hu
              clear hu H13
              go_wp2_with fail
              refine Calls.mono (like_V _ b r 1020 v u L (by rw [HM.out.2.2]; omega) HM.out.2.1 (by rw [HM.out.2.2]; omega) H14.out.both) ?_
              rintro e w15 ⟨rfl, hu⟩
              have U15 : Hid (Upd [] w w15) := H14.out.lb.low.trans hu
              clear hu H14
              go_wp2_with fail
              refine Calls.mono (awake_any _) ?_
              rintro e w16 ⟨rfl, hu⟩
              have U16 : Hid (Upd [] w w16) := U15.out.trans hu
              clear hu U15
              go_wp2_with fail
              go_ret
              exact ⟨rfl, U16.out⟩

end Go.Proofs.Ytmdkhkeljpdbiaa
